package isa

import (
	"theodolite/api"
	"theodolite/leb"
	"theodolite/octet"
)

func op() part {
	return part{
		fits: func(i api.Instr) bool {
			if i.Kind == api.MacUn {
				return i.Op == api.OpNot || i.Op == api.OpNeg
			}
			return i.Op >= api.OpAdd && i.Op <= api.OpOr
		},
		drop: func(i api.Instr) api.Instr {
			i.Op = 0
			return i
		},
		put: func(b []byte, i api.Instr) []byte { return append(b, i.Op) },
		get: func(i api.Instr, b []byte, at int) (api.Instr, int, api.Errno) {
			x, next, e := octet.One(b, at)
			i.Op = x
			return i, next, e
		},
	}
}

func isReg(n int) bool { return n >= 0 && n < api.Regs }

func reg() part {
	return part{
		fits: func(i api.Instr) bool { return isReg(i.R) },
		drop: func(i api.Instr) api.Instr {
			i.R = 0
			return i
		},
		put: func(b []byte, i api.Instr) []byte { return append(b, byte(i.R)) },
		get: func(i api.Instr, b []byte, at int) (api.Instr, int, api.Errno) {
			x, next, e := octet.One(b, at)
			i.R = int(x)
			return i, next, e
		},
	}
}

func both() part {
	return part{
		fits: func(i api.Instr) bool { return isReg(i.R) && isReg(i.S) },
		drop: func(i api.Instr) api.Instr {
			i.R, i.S = 0, 0
			return i
		},
		put: func(b []byte, i api.Instr) []byte {
			x, _ := octet.Pair(i.R, i.S)
			return append(b, x)
		},
		get: func(i api.Instr, b []byte, at int) (api.Instr, int, api.Errno) {
			x, next, e := octet.One(b, at)
			i.R, i.S = octet.Halves(x)
			return i, next, e
		},
	}
}

func third() part {
	return part{
		fits: func(i api.Instr) bool { return isReg(i.T) },
		drop: func(i api.Instr) api.Instr {
			i.T = 0
			return i
		},
		put: func(b []byte, i api.Instr) []byte { return append(b, byte(i.T)) },
		get: func(i api.Instr, b []byte, at int) (api.Instr, int, api.Errno) {
			x, next, e := octet.One(b, at)
			i.T = int(x)
			return i, next, e
		},
	}
}

func dropN(i api.Instr) api.Instr {
	i.N = 0
	return i
}

// number is the part that the chapter names N.
func number() part {
	return part{
		fits: func(i api.Instr) bool { return i.Kind == api.MacNum || i.N >= -reach && i.N <= reach },
		drop: dropN,
		put:  func(b []byte, i api.Instr) []byte { return leb.PutS(b, i.N) },
		get: func(i api.Instr, b []byte, at int) (api.Instr, int, api.Errno) {
			n, next, e := leb.S(b, at)
			i.N = n
			return i, next, e
		},
	}
}

// many is the part that the chapter names M. What is read beyond 63 bits comes out below 0, and does not fit either.
func many() part {
	return part{
		fits: func(i api.Instr) bool { return i.M >= 1 && i.M <= reach },
		drop: func(i api.Instr) api.Instr {
			i.M = 0
			return i
		},
		put: func(b []byte, i api.Instr) []byte { return leb.PutU(b, uint64(i.M)) },
		get: func(i api.Instr, b []byte, at int) (api.Instr, int, api.Errno) {
			m, next, e := leb.U(b, at)
			i.M = int64(m)
			return i, next, e
		},
	}
}

func to() part {
	return part{
		fits: func(i api.Instr) bool { return i.N >= 0 && i.N < places },
		drop: dropN,
		put: func(b []byte, i api.Instr) []byte {
			b, _ = octet.PutPlace(b, int(i.N))
			return b
		},
		get: func(i api.Instr, b []byte, at int) (api.Instr, int, api.Errno) {
			n, next, e := octet.Place(b, at)
			i.N = int64(n)
			return i, next, e
		},
	}
}

func how() part {
	return part{
		fits: func(i api.Instr) bool { return i.N >= int64(api.RunDiv) && i.N <= int64(api.RunInput) },
		drop: dropN,
		put:  func(b []byte, i api.Instr) []byte { return append(b, byte(i.N)) },
		get: func(i api.Instr, b []byte, at int) (api.Instr, int, api.Errno) {
			x, next, e := octet.One(b, at)
			i.N = int64(x)
			return i, next, e
		},
	}
}
