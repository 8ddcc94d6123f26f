// Package octet is layer 1: see shared/doc/01-octet.md.
package octet

import "theodolite/api"

const (
	halves    = 16      // a half is below it
	places    = 1 << 24 // a place is below it
	placeSize = 3       // a place's bytes
	textMax   = 255     // what a text's one byte of length can say
)

// Pair: two halves as a byte.
func Pair(high, low int) (byte, bool) {
	if !isHalf(high) || !isHalf(low) {
		return 0, false
	}
	return byte(high*halves + low), true
}

func isHalf(n int) bool { return n >= 0 && n < halves }

// Halves: those of a byte.
func Halves(x byte) (high, low int) { return int(x) / halves, int(x) % halves }

// One: the byte at a place, and the place behind it.
func One(b []byte, at int) (x byte, next int, e api.Errno) {
	if e := stands(b, at, 1); e != api.OK {
		return 0, 0, e
	}
	return b[at], at + 1, api.OK
}

// PutPlace: bytes with a place of the code behind them.
func PutPlace(b []byte, n int) ([]byte, api.Errno) {
	if n < 0 || n >= places {
		return nil, api.ErrArg
	}
	var parts [placeSize]byte
	for i := range placeSize {
		parts[placeSize-1-i] = byte(n >> (8 * i))
	}
	return behind(b, parts[:]), api.OK
}

// Place: the place of the code that stands there, and what is behind it.
func Place(b []byte, at int) (n, next int, e api.Errno) {
	if e := stands(b, at, placeSize); e != api.OK {
		return 0, 0, e
	}
	var parts [placeSize]byte
	copy(parts[:], b[at:])
	for i := range placeSize {
		n = n<<8 | int(parts[i])
	}
	return n, at + placeSize, api.OK
}

// PutText: bytes with a text behind them.
func PutText(b []byte, s string) ([]byte, api.Errno) {
	if len(s) > textMax {
		return nil, api.ErrArg
	}
	told := make([]byte, 0, 1+len(s))
	told = append(told, byte(len(s)))
	told = append(told, s...)
	return behind(b, told), api.OK
}

// Text: the text that stands there, and what is behind it.
func Text(b []byte, at int) (s string, next int, e api.Errno) {
	size, from, e := One(b, at)
	if e != api.OK {
		return "", 0, e
	}
	if e := stands(b, from, int(size)); e != api.OK {
		return "", 0, e
	}
	next = from + int(size)
	return string(b[from:next]), next, api.OK
}

// stands tells whether size bytes stand in b from at on. It asks what is left of b, as at and size together could go round.
func stands(b []byte, at, size int) api.Errno {
	switch {
	case at < 0 || at > len(b):
		return api.ErrArg
	case len(b)-at < size:
		return api.ErrForm
	}
	return api.OK
}

// behind answers new memory: an append to b itself would write into the room behind its end.
func behind(b, more []byte) []byte {
	out := make([]byte, 0, len(b)+len(more))
	out = append(out, b...)
	return append(out, more...)
}
