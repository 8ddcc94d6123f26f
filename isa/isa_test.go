package isa_test

import (
	"bytes"
	"maps"
	"math"
	"slices"
	"strings"
	"testing"

	"theodolite/api"
	"theodolite/isa"
	"theodolite/leb"
	"theodolite/octet"
)

const lastPlace = 1<<24 - 1

// P3.1

func TestInstructionsThatAreRight(t *testing.T) {
	for _, c := range []struct {
		i    api.Instr
		want string
	}{
		{api.Instr{Kind: api.MacNop}, "\x01"},
		{api.Instr{Kind: api.MacNum}, "\x02\x00\x00"},
		{api.Instr{Kind: api.MacNum, R: 15, N: -1}, "\x02\x0f\x7f"},
		{api.Instr{Kind: api.MacNum, R: 7, N: 300}, "\x02\x07\xac\x02"},
		{api.Instr{Kind: api.MacNum, N: 65537}, "\x02\x00\x81\x80\x04"},
		{api.Instr{Kind: api.MacNum, N: -65537}, "\x02\x00\xff\xff\x7b"},
		{api.Instr{Kind: api.MacNum, R: 3, N: math.MaxInt64}, "\x02\x03" + strings.Repeat("\xff", 9) + "\x00"},
		{api.Instr{Kind: api.MacNum, R: 3, N: math.MinInt64}, "\x02\x03" + strings.Repeat("\x80", 9) + "\x7f"},
		{api.Instr{Kind: api.MacMove}, "\x03\x00"},
		{api.Instr{Kind: api.MacMove, R: 1, S: 2}, "\x03\x12"},
		{api.Instr{Kind: api.MacMove, R: 15}, "\x03\xf0"},
		{api.Instr{Kind: api.MacMove, S: 15}, "\x03\x0f"},
		{api.Instr{Kind: api.MacBin, Op: api.OpSub, R: 1, S: 2, T: 3}, "\x04\x02\x12\x03"},
		{api.Instr{Kind: api.MacBin, Op: api.OpAdd}, "\x04\x01\x00\x00"},
		{api.Instr{Kind: api.MacBin, Op: api.OpOr, R: 15, S: 15, T: 15}, "\x04\x0d\xff\x0f"},
		{api.Instr{Kind: api.MacUn, Op: api.OpNot, R: 4, S: 5}, "\x05\x0e\x45"},
		{api.Instr{Kind: api.MacUn, Op: api.OpNeg, R: 15, S: 14}, "\x05\x0f\xfe"},
		{api.Instr{Kind: api.MacLoad, R: 1, S: 15, N: 64}, "\x06\x1f\xc0\x00"},
		{api.Instr{Kind: api.MacLoad, R: 1, S: 15, N: -65536}, "\x06\x1f\x80\x80\x7c"},
		{api.Instr{Kind: api.MacStore, R: 9, N: -64}, "\x07\x90\x40"},
		{api.Instr{Kind: api.MacStore, R: 9, S: 1, N: 65536}, "\x07\x91\x80\x80\x04"},
		{api.Instr{Kind: api.MacPick, R: 1, S: 2, T: 3, N: -2, M: 4}, "\x08\x12\x03\x7e\x04"},
		{api.Instr{Kind: api.MacPick, M: 1}, "\x08\x00\x00\x00\x01"},
		{api.Instr{Kind: api.MacLay, R: 14, S: 13, T: 15, N: 5, M: 128}, "\x09\xed\x0f\x05\x80\x01"},
		{api.Instr{Kind: api.MacLay, R: 15, S: 15, T: 15, N: -65536, M: 65536}, "\x09\xff\x0f\x80\x80\x7c\x80\x80\x04"},
		{api.Instr{Kind: api.MacJump}, "\x0a\x00\x00\x00"},
		{api.Instr{Kind: api.MacJump, N: 65538}, "\x0a\x01\x00\x02"},
		{api.Instr{Kind: api.MacJump, N: lastPlace}, "\x0a\xff\xff\xff"},
		{api.Instr{Kind: api.MacZero, R: 2, N: 258}, "\x0b\x02\x00\x01\x02"},
		{api.Instr{Kind: api.MacZero, R: 15, N: lastPlace}, "\x0b\x0f\xff\xff\xff"},
		{api.Instr{Kind: api.MacCall, N: 1}, "\x0c\x00\x00\x01"},
		{api.Instr{Kind: api.MacCall, N: lastPlace}, "\x0c\xff\xff\xff"},
		{api.Instr{Kind: api.MacRet}, "\x0d"},
		{api.Instr{Kind: api.MacFrame, N: 64}, "\x0e\xc0\x00"},
		{api.Instr{Kind: api.MacFrame, N: -3}, "\x0e\x7d"},
		{api.Instr{Kind: api.MacIn}, "\x0f\x00"},
		{api.Instr{Kind: api.MacIn, R: 15}, "\x0f\x0f"},
		{api.Instr{Kind: api.MacOut, R: 1}, "\x10\x01"},
		{api.Instr{Kind: api.MacHalt, R: 8}, "\x11\x08"},
		{api.Instr{Kind: api.MacTrap, N: int64(api.RunDiv)}, "\x12\x02"},
		{api.Instr{Kind: api.MacTrap, N: int64(api.RunIndex)}, "\x12\x03"},
		{api.Instr{Kind: api.MacTrap, N: int64(api.RunInput)}, "\x12\x04"},
	} {
		isPut(t, c.i, c.want)
	}
}

func TestKindsThatThereAre(t *testing.T) {
	for kind := range 256 {
		i := plain(uint8(kind))
		if kind >= 1 && kind <= 18 {
			isPut(t, i, string(written(i)))
			continue
		}
		for _, i := range []api.Instr{i, {Kind: i.Kind, Op: api.OpAdd}, {Kind: i.Kind, N: 2, M: 1}} {
			isRefused(t, i)
		}
	}
}

func TestRegisters(t *testing.T) {
	for _, kind := range kinds() {
		for _, f := range registers() {
			if !f.has(kind) {
				continue
			}
			for n := range api.Regs {
				i := plain(kind)
				*f.in(&i) = n
				isPut(t, i, string(written(i)))
			}
			for _, n := range []int{-1, 16, 17, -16, 255, 256, 271, -256, 1 << 32, math.MaxInt, math.MinInt} {
				i := plain(kind)
				*f.in(&i) = n
				isRefused(t, i)
			}
		}
	}
}

func TestOps(t *testing.T) {
	for op := range 256 {
		for _, kind := range []uint8{api.MacBin, api.MacUn} {
			i := api.Instr{Kind: kind, Op: uint8(op), R: 1, S: 2}
			fits := i.Op >= api.OpAdd && i.Op <= api.OpOr
			if kind == api.MacUn {
				fits = i.Op == api.OpNot || i.Op == api.OpNeg
			}
			if fits {
				isPut(t, i, string(written(i)))
			} else {
				isRefused(t, i)
			}
		}
	}
}

func TestBoundsOfN(t *testing.T) {
	for _, kind := range kinds() {
		var right, wrong []int64
		switch {
		case kind == api.MacNum:
			right = []int64{0, -65536, 65536, -65537, 65537, 1 << 24, math.MaxInt64, math.MinInt64}
		case has(kind, "N"):
			right = []int64{-65536, -65535, -1, 0, 1, 65535, 65536}
			wrong = []int64{-65537, 65537, 1 << 32, -1 << 32, math.MaxInt64, math.MinInt64}
		case has(kind, "to"):
			right = []int64{0, 1, 255, 256, 65536, lastPlace - 1, lastPlace}
			wrong = []int64{-1, lastPlace + 1, 1 << 32, math.MaxInt64, math.MinInt64}
		case has(kind, "how"):
			right = []int64{2, 3, 4}
			wrong = []int64{0, 1, 5, -1, 6, 258, 1<<32 + 2, -254, math.MaxInt64, math.MinInt64}
		default:
			right = []int64{0}
			wrong = []int64{1, -1, 2, 256, 1 << 32, math.MaxInt64, math.MinInt64}
		}
		i := plain(kind)
		for _, i.N = range right {
			isPut(t, i, string(written(i)))
		}
		for _, i.N = range wrong {
			isRefused(t, i)
		}
	}
}

func TestBoundsOfM(t *testing.T) {
	for _, kind := range []uint8{api.MacPick, api.MacLay} {
		i := api.Instr{Kind: kind, R: 1, S: 2, T: 3, N: -1}
		for _, i.M = range []int64{1, 2, 127, 128, 16383, 16384, 65535, 65536} {
			isPut(t, i, string(written(i)))
		}
		for _, i.M = range []int64{0, -1, 65537, -65536, 1 << 32, 1<<32 + 1, math.MaxInt64, math.MinInt64} {
			isRefused(t, i)
		}
	}
}

func TestWhatHasNoPartIsNought(t *testing.T) {
	for _, kind := range kinds() {
		for _, f := range registers() {
			for _, n := range []int{1, 15, -1, 16, 256, math.MinInt} {
				i := plain(kind)
				*f.in(&i) = n
				if !f.has(kind) {
					isRefused(t, i)
				}
			}
		}
		for _, op := range []uint8{api.OpAdd, api.OpOr, api.OpNot, api.OpNeg, 255} {
			i := plain(kind)
			i.Op = op
			if !has(kind, "op") {
				isRefused(t, i)
			}
		}
		for _, n := range []int64{1, -1, 4, 65536, 1 << 32, math.MinInt64} {
			i := plain(kind)
			i.M = n
			if !has(kind, "M") {
				isRefused(t, i)
			}
			i = plain(kind)
			i.N = n
			if !has(kind, "N", "to", "how") {
				isRefused(t, i)
			}
		}
	}
}

func TestInstructionsAsTheWordsSay(t *testing.T) {
	for i := range instructions {
		right := isRight(i)
		if isa.Right(i) != right {
			t.Errorf("Right(%+v): %v", i, !right)
			continue
		}
		var want []byte
		if right {
			want = written(i)
		}
		if b := isa.Put(nil, i); !bytes.Equal(b, want) || isa.Size(i) != len(want) {
			t.Errorf("Put(%+v): %x, of size %d, not %x", i, b, isa.Size(i), want)
		}
	}
}

// P3.2

func TestGet(t *testing.T) {
	for _, c := range []struct {
		b    string
		at   int
		i    api.Instr
		next int
	}{
		{"\x08\x12\x03\x7e\x04", 0, api.Instr{Kind: api.MacPick, R: 1, S: 2, T: 3, N: -2, M: 4}, 5},
		{"\x0d\x0d", 0, api.Instr{Kind: api.MacRet}, 1},
		{"\x0d\x0d", 1, api.Instr{Kind: api.MacRet}, 2},
		{"\x01\xff", 0, api.Instr{Kind: api.MacNop}, 1},
		{"\x02\x0f\x7f", 0, api.Instr{Kind: api.MacNum, R: 15, N: -1}, 3},
		{"\xff\x02\x00" + strings.Repeat("\x80", 9) + "\x7f\xff", 1, api.Instr{Kind: api.MacNum, N: math.MinInt64}, 13},
		{"\x02\x00" + strings.Repeat("\xff", 9) + "\x00", 0, api.Instr{Kind: api.MacNum, N: math.MaxInt64}, 12},
		{"\x03\xf0", 0, api.Instr{Kind: api.MacMove, R: 15}, 2},
		{"\x03\x0f\x01", 0, api.Instr{Kind: api.MacMove, S: 15}, 2},
		{"\x04\x0d\xfe\x0f", 0, api.Instr{Kind: api.MacBin, Op: api.OpOr, R: 15, S: 14, T: 15}, 4},
		{"\x04\x01\x00\x00\x00", 0, api.Instr{Kind: api.MacBin, Op: api.OpAdd}, 4},
		{"\x05\x0e\x45", 0, api.Instr{Kind: api.MacUn, Op: api.OpNot, R: 4, S: 5}, 3},
		{"\x05\x0f\x45", 0, api.Instr{Kind: api.MacUn, Op: api.OpNeg, R: 4, S: 5}, 3},
		{"\x06\x1f\xc0\x00", 0, api.Instr{Kind: api.MacLoad, R: 1, S: 15, N: 64}, 4},
		{"\x06\x1f\x80\x80\x7c", 0, api.Instr{Kind: api.MacLoad, R: 1, S: 15, N: -65536}, 5},
		{"\x07\x91\x80\x80\x04", 0, api.Instr{Kind: api.MacStore, R: 9, S: 1, N: 65536}, 5},
		{"\x09\xff\x0f\x80\x80\x7c\x80\x80\x04\x01", 0, api.Instr{Kind: api.MacLay, R: 15, S: 15, T: 15, N: -65536, M: 65536}, 9},
		{"\x08\x00\x00\x00\x01", 0, api.Instr{Kind: api.MacPick, M: 1}, 5},
		{"\x0a\x01\x00\x02", 0, api.Instr{Kind: api.MacJump, N: 65538}, 4},
		{"\x0a\xff\xff\xff\xff", 0, api.Instr{Kind: api.MacJump, N: lastPlace}, 4},
		{"\x0b\x02\x00\x01\x02", 0, api.Instr{Kind: api.MacZero, R: 2, N: 258}, 5},
		{"\x0c\x00\x00\x00", 0, api.Instr{Kind: api.MacCall}, 4},
		{"\x0e\xc0\x00", 0, api.Instr{Kind: api.MacFrame, N: 64}, 3},
		{"\x0f\x00", 0, api.Instr{Kind: api.MacIn}, 2},
		{"\x10\x0f", 0, api.Instr{Kind: api.MacOut, R: 15}, 2},
		{"\x11\x01", 0, api.Instr{Kind: api.MacHalt, R: 1}, 2},
		{"\x12\x02\x03\x04", 0, api.Instr{Kind: api.MacTrap, N: 2}, 2},
		{"\x12\x04", 0, api.Instr{Kind: api.MacTrap, N: 4}, 2},
	} {
		isGot(t, []byte(c.b), c.at, c.i, c.next)
	}
}

func TestPlacesWhereNothingStands(t *testing.T) {
	for _, c := range []struct {
		b  []byte
		at int
		e  api.Errno
	}{
		{[]byte{1}, 1, api.ErrForm},
		{[]byte{1}, 2, api.ErrArg},
		{[]byte{1}, -1, api.ErrArg},
		{[]byte{1, 1, 1}, 3, api.ErrForm},
		{[]byte{1, 1, 1}, 4, api.ErrArg},
		{[]byte{1, 1, 1}, -3, api.ErrArg},
		{[]byte{1, 1, 1}, math.MaxInt, api.ErrArg},
		{[]byte{1, 1, 1}, math.MinInt, api.ErrArg},
		{[]byte{}, 0, api.ErrForm},
		{[]byte{}, 1, api.ErrArg},
		{nil, 0, api.ErrForm},
		{nil, 1, api.ErrArg},
		{nil, -1, api.ErrArg},
		{[]byte{0}, 2, api.ErrArg}, // ahead of what its bytes say
		{[]byte{0}, -1, api.ErrArg},
	} {
		isNone(t, c.b, c.at, c.e)
	}
}

func TestBytesThatSayNoInstruction(t *testing.T) {
	nine := strings.Repeat("\x80", 9)
	full := strings.Repeat("\xff", 9)
	for _, b := range []string{
		"\x00", "\x00\x00\x00\x00", "\x13", "\x13\x00\x00\x00\x00", "\x14\x01", "\x81", "\xff\xff", // kinds
		"\x02\x10\x00", "\x02\x1f\x00", "\x02\xf0\x00", "\x0b\x10\x00\x00\x00", "\x0f\x10", "\x10\x80", "\x11\xff", // reg
		"\x04\x01\x00\x10", "\x04\x01\x00\x31", "\x04\x01\x12\xff", "\x08\x00\x10\x00\x01", "\x09\x00\xf0\x00\x01", // third
		"\x04\x00\x00\x00", "\x04\x0e\x00\x00", "\x04\x0f\x00\x00", "\x04\xff\x00\x00", // op of two
		"\x05\x00\x00", "\x05\x01\x00", "\x05\x0d\x00", "\x05\x10\x00", "\x05\xff\x00", // op of one
		"\x02\x00\x80\x00", "\x02\x00\xff\x7f", "\x02\x00\xff\x80\x00", "\x02\x00" + full + "\x7f", "\x02\x00" + nine + "\x00", // N, not its own bytes
		"\x02\x00" + nine + "\x01", "\x02\x00" + full + "\x3f", "\x02\x00" + nine + "\x80\x00", "\x02\x00" + full + "\xff\x7f", // N beyond 64 bits
		"\x06\x00\x80\x00", "\x07\x00\xff\x7f", "\x08\x00\x00\x80\x00\x01", "\x0e\x80\x80\x00", // N, not its own bytes
		"\x06\x00\x81\x80\x04", "\x06\x00\xff\xff\x7b", "\x07\x00\x81\x80\x04", "\x07\x00\xff\xff\x7b", // N one beyond its bounds
		"\x08\x00\x00\x81\x80\x04\x01", "\x09\x00\x00\xff\xff\x7b\x01", "\x0e\x81\x80\x04", "\x0e\xff\xff\x7b",
		"\x0e" + full + "\x00", "\x0e" + nine + "\x7f", "\x06\x00" + nine[:4] + "\x10", // N far beyond them
		"\x08\x00\x00\x00\x00", "\x09\x00\x00\x00\x00", "\x08\x00\x00\x00\x81\x80\x04", "\x09\x00\x00\x00\x81\x80\x04", // M 0, 65537
		"\x08\x00\x00\x00\x80\x00", "\x08\x00\x00\x00\x81\x00", "\x09\x00\x00\x00\x81\x80\x00", // M, not its own bytes
		"\x08\x00\x00\x00" + nine + "\x01", "\x08\x00\x00\x00" + full + "\x01", "\x08\x00\x00\x00\x81" + nine[1:] + "\x01", // M 2^63 and more
		"\x08\x00\x00\x00" + nine + "\x02", "\x08\x00\x00\x00\x81" + nine[1:] + "\x02", "\x08\x00\x00\x00" + nine[:4] + "\x10", // M 2^64, 2^64 + 1, 2^32
		"\x12\x00", "\x12\x01", "\x12\x05", "\x12\x06", "\x12\x82", "\x12\xff", // how
	} {
		for _, behind := range []string{"", "\x00", "\x01\x01\x01\x01\x01\x01\x01\x01\x01\x01\x01\x01", full} {
			isNone(t, []byte(b+behind), 0, api.ErrForm)
			isNone(t, []byte("\x0d"+b+behind), 1, api.ErrForm)
		}
	}
}

func TestBytesCutShort(t *testing.T) {
	for _, i := range rightOnes() {
		b := isa.Put(nil, i)
		for size := range b {
			// The room behind the end holds the rest of it: it does not count.
			isNone(t, b[:size], 0, api.ErrForm)
			isNone(t, b[:size], size+1, api.ErrArg)
			isNone(t, b[:size], -1, api.ErrArg)
		}
	}
}

// Any two bytes behind each kind, and what stands behind them, are read as the words say.

func TestGetOfAnyBytes(t *testing.T) {
	for kind := range api.MacTrap + 2 {
		for x := range 1 << 16 {
			for _, behind := range []string{"", "\x01", "\x80\x01", "\x03\x7f\x04", "\xff\xff\x03\x05"} {
				b := append([]byte{kind, byte(x >> 8), byte(x)}, behind...)
				isGotAsTheWordsSay(t, b, 0)
			}
		}
	}
}

func TestGetOfAnyBytesAtAnyPlace(t *testing.T) {
	for x := range 1 << 14 {
		b := []byte{byte(x) & 31, byte(x >> 2), byte(x>>9) & 31, byte(x >> 4), byte(x>>6) & 15}
		for at := -2; at <= len(b)+2; at++ {
			isGotAsTheWordsSay(t, b, at)
		}
	}
}

// What follows

func TestWhatWasPutIsGot(t *testing.T) {
	for _, i := range rightOnes() {
		for _, ahead := range []string{"", "\x00", "\x0d", "\xff\x80"} {
			for _, behind := range []string{"", "\x00", "\x01", "\x7f", "\x80", "\xff\xff"} {
				b := append(isa.Put([]byte(ahead), i), behind...)
				isGot(t, b, len(ahead), i, len(b)-len(behind))
			}
		}
	}
}

func TestInstructionsOneBehindTheOther(t *testing.T) {
	all := slices.Concat(rightOnes()[:400], extremes())
	var b []byte
	for _, i := range all {
		b = isa.Put(b, i)
	}
	at := 0
	for _, i := range all {
		next := at + isa.Size(i)
		isGot(t, b, at, i, next)
		at = next
	}
	if at != len(b) {
		t.Errorf("%d of %d bytes were read", at, len(b))
	}
}

func TestWhatIsGotIsRightAndPutAsItStood(t *testing.T) {
	for kind := range api.MacTrap + 2 {
		for x := range 1 << 16 {
			b := []byte{kind, byte(x >> 8), byte(x), byte(x >> 6), byte(x>>3) & 127, 1}
			i, next, e := isa.Get(b, 0)
			if e != api.OK {
				continue
			}
			if again := isa.Put(nil, i); !isa.Right(i) || !bytes.Equal(again, b[:next]) || isa.Size(i) != next {
				t.Errorf("Get of %x: %+v, put as %x, right: %v", b, i, again, isa.Right(i))
			}
		}
	}
}

func TestHowManyBytesThereAre(t *testing.T) {
	least, most := map[uint8]int{}, map[uint8]int{}
	for _, i := range slices.Concat(rightOnes(), extremes()) {
		n := isa.Size(i)
		if n != len(isa.Put(nil, i)) {
			t.Errorf("Size(%+v): %d", i, n)
		}
		if least[i.Kind] == 0 || n < least[i.Kind] {
			least[i.Kind] = n
		}
		most[i.Kind] = max(most[i.Kind], n)
	}
	for kind, want := range map[uint8][2]int{
		api.MacNop: {1, 1}, api.MacNum: {3, 12}, api.MacMove: {2, 2}, api.MacBin: {4, 4}, api.MacUn: {3, 3},
		api.MacLoad: {3, 5}, api.MacStore: {3, 5}, api.MacPick: {5, 9}, api.MacLay: {5, 9},
		api.MacJump: {4, 4}, api.MacZero: {5, 5}, api.MacCall: {4, 4}, api.MacRet: {1, 1}, api.MacFrame: {2, 4},
		api.MacIn: {2, 2}, api.MacOut: {2, 2}, api.MacHalt: {2, 2}, api.MacTrap: {2, 2},
	} {
		if least[kind] != want[0] || most[kind] != want[1] {
			t.Errorf("kind %d has %d to %d bytes, not %d to %d", kind, least[kind], most[kind], want[0], want[1])
		}
	}
}

func TestTargetsSayNothingAboutSize(t *testing.T) {
	for _, n := range []int64{0, 1, 63, 64, 127, 128, 255, 256, 65535, 65536, lastPlace} {
		for kind, want := range map[uint8]int{api.MacJump: 4, api.MacZero: 5, api.MacCall: 4} {
			if size := isa.Size(api.Instr{Kind: kind, N: n}); size != want {
				t.Errorf("Size of kind %d to %d: %d, not %d", kind, n, size, want)
			}
		}
	}
}

// R3

func TestPutLeavesWhatIsHandedIn(t *testing.T) {
	wrong := []api.Instr{{}, {Kind: 19}, {Kind: api.MacOut, R: 16}, {Kind: api.MacMove, N: 1}, {Kind: api.MacBin, Op: api.OpNot}}
	for _, i := range slices.Concat(wrong, extremes()) {
		for size := range 3 { // 0 too: an empty list with room behind its end
			whole := []byte{90, 91, 92, 93, 94, 95, 96, 97, 98, 99, 100, 101, 102, 103, 104, 105}
			kept := bytes.Clone(whole)
			out := isa.Put(whole[:size], i)
			if !bytes.Equal(out[:size], kept[:size]) || len(out) != size+isa.Size(i) {
				t.Errorf("Put(%+v) behind %d bytes: %x", i, size, out)
			}
			if !bytes.Equal(whole, kept) {
				t.Errorf("Put(%+v) behind %d bytes changed what was handed in: %x", i, size, whole)
			}
			overwrite(out)
			if !bytes.Equal(whole, kept) {
				t.Errorf("Put(%+v) behind %d bytes answers memory of its argument", i, size)
			}
		}
	}
}

// overwrite fills a list, and the room behind its end.
func overwrite(b []byte) {
	b = b[:cap(b)]
	for i := range b {
		b[i] = 0xee
	}
}

func TestPutAnswersNewMemoryEachTime(t *testing.T) {
	begin := append(make([]byte, 0, 16), 1)
	first := isa.Put(begin, api.Instr{Kind: api.MacIn, R: 2})
	second := isa.Put(begin, api.Instr{Kind: api.MacIn, R: 3})
	third := isa.Put(begin, api.Instr{})
	fourth := isa.Put(begin, api.Instr{})
	fifth := isa.Put(nil, api.Instr{Kind: api.MacRet})
	sixth := isa.Put(nil, api.Instr{Kind: api.MacRet})
	for _, b := range [][]byte{second, fourth, sixth} {
		overwrite(b)
	}
	if string(first) != "\x01\x0f\x02" || string(third) != "\x01" || string(fifth) != "\x0d" {
		t.Errorf("one answer changed others: %x, %x, %x", first, third, fifth)
	}
}

func TestGetLeavesWhatIsHandedIn(t *testing.T) {
	whole := []byte("\x08\x12\x03\x7e\x04\x02\x10\x00\x0a\x01\x00\x02\x0d\x13")
	kept := bytes.Clone(whole)
	for size := range len(whole) + 1 {
		for at := -1; at <= size+1; at++ {
			isa.Get(whole[:size], at)
		}
	}
	if !bytes.Equal(whole, kept) {
		t.Errorf("the reads changed what was handed in: %x", whole)
	}
}

// shapes is the chapter's table: of each kind its parts, one behind the other.
var shapes = map[uint8][]string{
	api.MacNop:   nil,
	api.MacNum:   {"reg", "N"},
	api.MacMove:  {"both"},
	api.MacBin:   {"op", "both", "third"},
	api.MacUn:    {"op", "both"},
	api.MacLoad:  {"both", "N"},
	api.MacStore: {"both", "N"},
	api.MacPick:  {"both", "third", "N", "M"},
	api.MacLay:   {"both", "third", "N", "M"},
	api.MacJump:  {"to"},
	api.MacZero:  {"reg", "to"},
	api.MacCall:  {"to"},
	api.MacRet:   nil,
	api.MacFrame: {"N"},
	api.MacIn:    {"reg"},
	api.MacOut:   {"reg"},
	api.MacHalt:  {"reg"},
	api.MacTrap:  {"how"},
}

func kinds() []uint8 { return slices.Sorted(maps.Keys(shapes)) }

// has tells whether a kind has one of these parts.
func has(kind uint8, anyOf ...string) bool {
	return slices.ContainsFunc(anyOf, func(part string) bool { return slices.Contains(shapes[kind], part) })
}

// field is one of an instruction's registers.
type field struct {
	in  func(i *api.Instr) *int
	has func(kind uint8) bool
}

func registers() []field {
	return []field{
		{func(i *api.Instr) *int { return &i.R }, func(kind uint8) bool { return has(kind, "reg", "both") }},
		{func(i *api.Instr) *int { return &i.S }, func(kind uint8) bool { return has(kind, "both") }},
		{func(i *api.Instr) *int { return &i.T }, func(kind uint8) bool { return has(kind, "third") }},
	}
}

// plain is an instruction of a kind, with nought wherever it may have it.
func plain(kind uint8) api.Instr {
	i := api.Instr{Kind: kind}
	switch kind {
	case api.MacBin:
		i.Op = api.OpAdd
	case api.MacUn:
		i.Op = api.OpNot
	case api.MacPick, api.MacLay:
		i.M = 1
	case api.MacTrap:
		i.N = int64(api.RunDiv)
	}
	return i
}

// isRight tells it as the chapter's words do.
func isRight(i api.Instr) bool {
	shape, is := shapes[i.Kind]
	within := func(n, low, high int64) bool { return n >= low && n <= high }
	var op, r, s, t, n, m bool
	for _, part := range shape {
		switch part {
		case "op":
			op = true
			if i.Kind == api.MacBin {
				is = is && i.Op >= api.OpAdd && i.Op <= api.OpOr
			} else {
				is = is && (i.Op == api.OpNot || i.Op == api.OpNeg)
			}
		case "reg":
			r = true
		case "both":
			r, s = true, true
		case "third":
			t = true
		case "N":
			n = true
			is = is && (i.Kind == api.MacNum || within(i.N, -65536, 65536))
		case "to":
			n = true
			is = is && within(i.N, 0, 1<<24-1)
		case "how":
			n = true
			is = is && within(i.N, 2, 4)
		case "M":
			m = true
			is = is && within(i.M, 1, 65536)
		}
	}
	for _, reg := range []int{i.R, i.S, i.T} {
		is = is && within(int64(reg), 0, 15)
	}
	return is && (op || i.Op == 0) && (r || i.R == 0) && (s || i.S == 0) && (t || i.T == 0) && (n || i.N == 0) && (m || i.M == 0)
}

// written is the bytes of a right instruction, as the chapter's words tell them.
func written(i api.Instr) []byte {
	b := []byte{i.Kind}
	for _, part := range shapes[i.Kind] {
		switch part {
		case "op":
			b = append(b, i.Op)
		case "reg":
			b = append(b, byte(i.R))
		case "both":
			b = append(b, byte(i.R*16+i.S))
		case "third":
			b = append(b, byte(i.T))
		case "N":
			b = leb.PutS(b, i.N)
		case "M":
			b = leb.PutU(b, uint64(i.M))
		case "to":
			b, _ = octet.PutPlace(b, int(i.N))
		case "how":
			b = append(b, byte(i.N))
		}
	}
	return b
}

// said is what the bytes at the beginning of b would say, whether it is right or not, and how many they are; 0, if they are not there whole.
func said(b []byte) (i api.Instr, at int) {
	if len(b) == 0 {
		return i, 0
	}
	i.Kind, at = b[0], 1
	for _, part := range shapes[i.Kind] {
		var e api.Errno
		switch part {
		case "N":
			i.N, at, e = leb.S(b, at)
		case "M":
			var m uint64
			m, at, e = leb.U(b, at)
			i.M = int64(min(m, math.MaxInt64))
		case "to":
			if at+3 > len(b) {
				return api.Instr{}, 0
			}
			i.N = int64(b[at])<<16 + int64(b[at+1])<<8 + int64(b[at+2])
			at += 3
		default:
			if at == len(b) {
				return api.Instr{}, 0
			}
			x := b[at]
			at++
			switch part {
			case "op":
				i.Op = x
			case "reg":
				i.R = int(x)
			case "both":
				i.R, i.S = int(x>>4), int(x&15)
			case "third":
				i.T = int(x)
			case "how":
				i.N = int64(x)
			}
		}
		if e != api.OK {
			return api.Instr{}, 0
		}
	}
	return i, at
}

// instructions goes through all that have numbers at the edges, right or not.
func instructions(yield func(api.Instr) bool) {
	regs := []int{0, 9, 15, 16, -1}
	for kind := range api.MacTrap + 3 {
		for _, op := range []uint8{0, api.OpAdd, api.OpOr, api.OpNot, api.OpNeg, api.OpNeg + 1} {
			for _, n := range []int64{0, 1, 2, 4, 5, -1, -64, 65536, 65537, -65536, -65537, lastPlace, lastPlace + 1, math.MinInt64, math.MaxInt64} {
				for _, m := range []int64{0, 1, 65536, 65537, -1} {
					for x := range len(regs) * len(regs) * len(regs) {
						i := api.Instr{Kind: kind, Op: op, R: regs[x%5], S: regs[x/5%5], T: regs[x/25], N: n, M: m}
						if !yield(i) {
							return
						}
					}
				}
			}
		}
	}
}

// rightOnes are those of the instructions that are right.
func rightOnes() []api.Instr {
	var out []api.Instr
	for i := range instructions {
		if isRight(i) {
			out = append(out, i)
		}
	}
	return out
}

// extremes are, of each kind, the shortest one and the longest one.
func extremes() []api.Instr {
	var out []api.Instr
	for _, kind := range kinds() {
		short, long := plain(kind), plain(kind)
		for _, f := range registers() {
			if f.has(kind) {
				*f.in(&long) = 15
			}
		}
		switch {
		case kind == api.MacNum:
			long.N = math.MinInt64
		case has(kind, "N"):
			long.N = -65536
		case has(kind, "to"):
			long.N = lastPlace
		}
		if has(kind, "M") {
			long.M = 65536
		}
		out = append(out, short, long)
	}
	return out
}

// isPut: the instruction is right, has just these bytes, and is put behind others.
func isPut(t *testing.T, i api.Instr, want string) {
	t.Helper()
	if !isa.Right(i) || isa.Size(i) != len(want) {
		t.Errorf("%+v: right: %v, size: %d, not %d", i, isa.Right(i), isa.Size(i), len(want))
	}
	for _, ahead := range []string{"", "\xff", "ab\x80"} {
		if b := isa.Put([]byte(ahead), i); string(b) != ahead+want {
			t.Errorf("Put(%x, %+v): %x, not %x", ahead, i, b, ahead+want)
		}
	}
	if b := isa.Put(nil, i); string(b) != want {
		t.Errorf("Put(nil, %+v): %x, not %x", i, b, want)
	}
}

// isRefused: the instruction is not right, has no bytes, and nothing is put behind others.
func isRefused(t *testing.T, i api.Instr) {
	t.Helper()
	if isa.Right(i) || isa.Size(i) != 0 {
		t.Errorf("%+v: right: %v, size: %d", i, isa.Right(i), isa.Size(i))
	}
	for _, ahead := range []string{"", "\xff", "ab\x80"} {
		if b := isa.Put([]byte(ahead), i); string(b) != ahead {
			t.Errorf("Put(%x, %+v): %x", ahead, i, b)
		}
	}
	if b := isa.Put(nil, i); len(b) != 0 {
		t.Errorf("Put(nil, %+v): %x", i, b)
	}
}

func isGot(t *testing.T, b []byte, at int, want api.Instr, behind int) {
	t.Helper()
	if i, next, e := isa.Get(b, at); i != want || next != behind || e != api.OK {
		t.Errorf("Get(%x, %d): %+v, %d, %d, not %+v, %d", b, at, i, next, e, want, behind)
	}
}

func isNone(t *testing.T, b []byte, at int, want api.Errno) {
	t.Helper()
	if i, next, e := isa.Get(b, at); i != (api.Instr{}) || next != 0 || e != want {
		t.Errorf("Get(%x, %d): %+v, %d, %d, not error %d", b, at, i, next, e, want)
	}
}

func isGotAsTheWordsSay(t *testing.T, b []byte, at int) {
	t.Helper()
	if at < 0 || at > len(b) {
		isNone(t, b, at, api.ErrArg)
		return
	}
	if i, size := said(b[at:]); size > 0 && isRight(i) {
		isGot(t, b, at, i, at+size)
	} else {
		isNone(t, b, at, api.ErrForm)
	}
}
