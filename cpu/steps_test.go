package cpu_test

import (
	"math"
	"testing"

	"theodolite/api"
	"theodolite/isa"
)

const (
	least = math.MinInt64
	most  = math.MaxInt64
)

// P4.2

// turns does the instruction in a setting: it goes on, pc is behind it, and nothing but what turn tells is another one.
func turns(t *testing.T, s setting, i api.Instr, turn func(want *state)) {
	t.Helper()
	m := s.stand(t, i)
	want := told(m)
	want.pc += isa.Size(i)
	turn(&want)
	if how := m.Step(); how != want.how || isa.Size(i) == 0 {
		t.Errorf("%+v: %d, not %d", i, how, want.how)
	}
	isState(t, m, want)
	if t.Failed() {
		t.Fatalf("%+v in %+v", i, s)
	}
}

// ends does the instruction in a setting: it ends the run so, and turns nothing else.
func ends(t *testing.T, s setting, i api.Instr, how uint8) {
	t.Helper()
	turns(t, s, i, func(want *state) {
		want.how = how
		want.pc -= isa.Size(i)
		if how == api.RunHalt {
			want.number, want.halted = want.regs[i.R], true
		}
	})
}

func sets(t *testing.T, s setting, i api.Instr, x int64) {
	t.Helper()
	turns(t, s, i, func(want *state) { want.regs[i.R] = x })
}

func TestNop(t *testing.T) {
	turns(t, setting{regs: regs{0: 1, 15: -7}}, api.Instr{Kind: api.MacNop}, func(*state) {})
}

func TestNumAndMove(t *testing.T) {
	for _, x := range []int64{0, 1, -1, 65536, 65537, 1 << 32, most, least} {
		for r := range api.Regs {
			s := setting{regs: regs{3: x, 5: 9}}
			sets(t, s, api.Instr{Kind: api.MacNum, R: r, N: x}, x)
			sets(t, s, api.Instr{Kind: api.MacMove, R: r, S: 3}, x)
		}
	}
	sets(t, setting{size: 6}, api.Instr{Kind: api.MacMove, R: 2, S: 15}, 6)
	sets(t, setting{regs: regs{2: 8}}, api.Instr{Kind: api.MacMove, R: 2, S: 2}, 8)
	sets(t, setting{regs: regs{2: 8}}, api.Instr{Kind: api.MacMove, R: 15, S: 2}, 8)
}

func TestBin(t *testing.T) {
	for _, c := range []struct {
		op         uint8
		a, b, want int64
	}{
		{api.OpAdd, 2, 3, 5}, {api.OpAdd, 2, -3, -1}, {api.OpAdd, most, 1, least}, {api.OpAdd, least, -1, most}, {api.OpAdd, least, least, 0},
		{api.OpSub, 2, 3, -1}, {api.OpSub, -2, -3, 1}, {api.OpSub, least, 1, most}, {api.OpSub, most, -1, least}, {api.OpSub, 0, least, least},
		{api.OpMul, 6, -7, -42}, {api.OpMul, most, 2, -2}, {api.OpMul, 1 << 32, 1 << 32, 0}, {api.OpMul, 1 << 62, 2, least}, {api.OpMul, least, -1, least},
		{api.OpDiv, 7, 2, 3}, {api.OpDiv, -7, 2, -3}, {api.OpDiv, 7, -2, -3}, {api.OpDiv, -7, -2, 3}, {api.OpDiv, 1, 2, 0}, {api.OpDiv, -1, 2, 0},
		{api.OpDiv, least, -1, least}, {api.OpDiv, least, 1, least}, {api.OpDiv, most, -1, -most}, {api.OpDiv, most, least, 0}, {api.OpDiv, 0, -5, 0}, {api.OpDiv, least, 2, -1 << 62},
		{api.OpRem, 7, 2, 1}, {api.OpRem, -7, 2, -1}, {api.OpRem, 7, -2, 1}, {api.OpRem, -7, -2, -1}, {api.OpRem, 6, 3, 0}, {api.OpRem, -6, 3, 0},
		{api.OpRem, least, -1, 0}, {api.OpRem, least, most, -1}, {api.OpRem, most, least, most}, {api.OpRem, 0, -5, 0}, {api.OpRem, least, 3, -2},
		{api.OpEq, 2, 2, 1}, {api.OpEq, 2, 3, 0}, {api.OpEq, least, most, 0}, {api.OpEq, least, least, 1},
		{api.OpNe, 2, 2, 0}, {api.OpNe, 2, 3, 1}, {api.OpNe, 1 << 32, 0, 1}, {api.OpNe, least, least, 0},
		{api.OpLt, 2, 2, 0}, {api.OpLt, 2, 3, 1}, {api.OpLt, 3, 2, 0}, {api.OpLt, least, most, 1}, {api.OpLt, most, least, 0}, {api.OpLt, -1, 0, 1},
		{api.OpLe, 2, 2, 1}, {api.OpLe, 2, 3, 1}, {api.OpLe, 3, 2, 0}, {api.OpLe, least, most, 1}, {api.OpLe, most, least, 0}, {api.OpLe, 0, -1, 0},
		{api.OpGt, 2, 2, 0}, {api.OpGt, 2, 3, 0}, {api.OpGt, 3, 2, 1}, {api.OpGt, least, most, 0}, {api.OpGt, most, least, 1}, {api.OpGt, 0, -1, 1},
		{api.OpGe, 2, 2, 1}, {api.OpGe, 2, 3, 0}, {api.OpGe, 3, 2, 1}, {api.OpGe, least, most, 0}, {api.OpGe, most, least, 1}, {api.OpGe, -1, 0, 0},
		{api.OpAnd, 6, 3, 2}, {api.OpAnd, -1, 5, 5}, {api.OpAnd, 4, 2, 0}, {api.OpAnd, least, -1, least}, {api.OpAnd, 2, 1, 0},
		{api.OpOr, 6, 3, 7}, {api.OpOr, -1, 5, -1}, {api.OpOr, 4, 2, 6}, {api.OpOr, least, most, -1}, {api.OpOr, 2, 2, 2},
	} {
		s := setting{regs: regs{1: c.a, 2: c.b, 3: 99}}
		for _, r := range []int{3, 1, 2, 0, 15} {
			sets(t, s, api.Instr{Kind: api.MacBin, Op: c.op, R: r, S: 1, T: 2}, c.want)
		}
	}
	for op := api.OpAdd; op <= api.OpOr; op++ { // one register may be both sides
		for _, a := range []int64{5, -5, least} {
			want, _ := modelBinary(op, a, a)
			sets(t, setting{regs: regs{1: a}}, api.Instr{Kind: api.MacBin, Op: op, R: 1, S: 1, T: 1}, want)
		}
	}
}

func TestDivisionsBy0(t *testing.T) {
	for _, op := range []uint8{api.OpDiv, api.OpRem} {
		for _, a := range []int64{0, 1, -1, least, most} {
			for _, r := range []int{0, 1, 2, 15} {
				ends(t, setting{regs: regs{0: 6, 1: a}}, api.Instr{Kind: api.MacBin, Op: op, R: r, S: 1, T: 2}, api.RunDiv)
			}
		}
	}
}

func TestUn(t *testing.T) {
	for _, c := range []struct {
		op      uint8
		a, want int64
	}{
		{api.OpNot, 0, 1}, {api.OpNot, 1, 0}, {api.OpNot, 2, -1}, {api.OpNot, -1, 2}, {api.OpNot, most, -most + 1}, {api.OpNot, least, least + 1}, {api.OpNot, -most, least},
		{api.OpNeg, 0, 0}, {api.OpNeg, 1, -1}, {api.OpNeg, -2, 2}, {api.OpNeg, most, -most}, {api.OpNeg, least, least},
	} {
		s := setting{regs: regs{4: c.a, 5: 77}}
		for _, r := range []int{5, 4, 15} {
			sets(t, s, api.Instr{Kind: api.MacUn, Op: c.op, R: r, S: 4}, c.want)
		}
	}
}

// reached are places of words, of ten: what is in S, N, and, if it is there, the place.
func reached() (there []struct{ s, n, at int64 }, not [][2]int64) {
	for _, x := range []struct{ s, n int64 }{
		{0, 0}, {9, 0}, {0, 9}, {10, -1}, {-1, 1}, {65536 + 4, -65536}, {-65536, 65536}, {-65536 + 9, 65536}, {5, 2}, {5, -5},
	} {
		there = append(there, struct{ s, n, at int64 }{x.s, x.n, x.s + x.n})
	}
	return there, [][2]int64{
		{-1, 0}, {10, 0}, {0, -1}, {0, 10}, {9, 1}, {11, -1}, {0, 65536}, {0, -65536}, {1 << 32, 0}, {1<<32 + 1, 0}, {-1 << 32, 0},
		{most, 0}, {most, 1}, {most, 65536}, {least, 0}, {least, -1}, {least, -65536}, // sums that go round, too
	}
}

func TestLoadAndStore(t *testing.T) {
	lay := map[int64]int64{}
	for at := range int64(10) {
		lay[at] = 100 + at
	}
	there, not := reached()
	for _, x := range there {
		s := setting{lay: lay, regs: regs{1: 55, 2: x.s}}
		for _, r := range []int{1, 2, 15} {
			sets(t, s, api.Instr{Kind: api.MacLoad, R: r, S: 2, N: x.n}, 100+x.at)
			turns(t, s, api.Instr{Kind: api.MacStore, R: r, S: 2, N: x.n}, func(want *state) { want.words[x.at] = want.regs[r] })
		}
	}
	for _, x := range not {
		s := setting{lay: lay, regs: regs{1: 55, 2: x[0]}}
		for _, r := range []int{1, 2, 15} {
			ends(t, s, api.Instr{Kind: api.MacLoad, R: r, S: 2, N: x[1]}, api.RunMemory)
			ends(t, s, api.Instr{Kind: api.MacStore, R: r, S: 2, N: x[1]}, api.RunMemory)
		}
	}
}

func TestTheOnlyWordAndTheLastOne(t *testing.T) {
	for _, size := range []int{1, api.MaxMemory} {
		s := setting{size: size, regs: regs{1: 3}}
		turns(t, s, api.Instr{Kind: api.MacStore, R: 1, S: 15, N: -1}, func(want *state) { want.words[size-1] = 3 })
		ends(t, s, api.Instr{Kind: api.MacStore, R: 1, S: 15}, api.RunMemory)
		ends(t, s, api.Instr{Kind: api.MacLoad, R: 1, S: 0, N: -1}, api.RunMemory)
	}
}

func TestPickAndLay(t *testing.T) {
	lay := map[int64]int64{}
	for at := range int64(10) {
		lay[at] = 100 + at
	}
	for _, c := range []struct{ s, n, t, m, at int64 }{
		{0, 0, 0, 1, 0}, {2, 3, 0, 4, 5}, {2, 3, 3, 4, 8}, {0, 0, 9, 10, 9}, {10, -3, 1, 3, 8}, {10, -3, 2, 3, 9}, {10, -65536, 65526, 65536, 0},
		{-65535, 0, 65535, 65536, 0}, {-1, 0, 1, 2, 0}, {9, 0, 0, 65536, 9},
	} {
		s := setting{lay: lay, regs: regs{1: 55, 2: c.s, 3: c.t}}
		for _, r := range []int{1, 2, 3, 15} {
			i := api.Instr{Kind: api.MacPick, R: r, S: 2, T: 3, N: c.n, M: c.m}
			sets(t, s, i, 100+c.at)
			i.Kind = api.MacLay
			turns(t, s, i, func(want *state) { want.words[c.at] = want.regs[r] })
		}
	}
	for _, c := range []struct {
		s, n, t, m int64
		how        uint8
	}{
		{0, 0, -1, 1, api.RunIndex}, {0, 0, 1, 1, api.RunIndex}, {2, 3, -1, 4, api.RunIndex}, {2, 3, 4, 4, api.RunIndex}, {0, 0, 65536, 65536, api.RunIndex},
		{0, 0, least, 4, api.RunIndex}, {0, 0, most, 65536, api.RunIndex}, {0, 0, 1 << 32, 4, api.RunIndex}, {0, 0, 1<<32 + 1, 4, api.RunIndex}, {1, 0, -1 << 32, 4, api.RunIndex},
		{-1, 0, 4, 4, api.RunIndex}, {most, 65536, -1, 4, api.RunIndex}, {100, 0, 4, 4, api.RunIndex}, // no such word either
		{0, -1, 0, 4, api.RunMemory}, {-4, 0, 3, 4, api.RunMemory}, {9, 0, 1, 2, api.RunMemory}, {10, 0, 0, 2, api.RunMemory}, {7, 0, 3, 4, api.RunMemory}, {0, 0, 10, 11, api.RunMemory},
		{most, 0, 0, 4, api.RunMemory}, {most, 1, 0, 4, api.RunMemory}, {most, 0, 3, 4, api.RunMemory}, {least, -65536, 3, 4, api.RunMemory}, {least, 0, 0, 1, api.RunMemory}, // sums that go round, too
	} {
		s := setting{lay: lay, regs: regs{1: 55, 2: c.s, 3: c.t}}
		for _, r := range []int{1, 2, 3, 15} {
			ends(t, s, api.Instr{Kind: api.MacPick, R: r, S: 2, T: 3, N: c.n, M: c.m}, c.how)
			ends(t, s, api.Instr{Kind: api.MacLay, R: r, S: 2, T: 3, N: c.n, M: c.m}, c.how)
		}
	}
}

func TestJumpAndZero(t *testing.T) {
	for _, to := range []int{0, 1, 3, 1000, lastPlace} {
		turns(t, setting{}, api.Instr{Kind: api.MacJump, N: int64(to)}, func(want *state) { want.pc = to })
		turns(t, setting{}, api.Instr{Kind: api.MacZero, R: 6, N: int64(to)}, func(want *state) { want.pc = to })
		turns(t, setting{regs: regs{15: 0}}, api.Instr{Kind: api.MacZero, R: 15, N: int64(to)}, func(want *state) { want.pc = to })
		for _, x := range []int64{1, -1, 2, 256, 1 << 32, least, most} {
			turns(t, setting{regs: regs{6: x}}, api.Instr{Kind: api.MacZero, R: 6, N: int64(to)}, func(*state) {})
		}
	}
}

func TestCall(t *testing.T) {
	i := api.Instr{Kind: api.MacCall, N: 300}
	for _, n := range []int64{1, 2, 9, 10} {
		turns(t, setting{regs: regs{15: n}, lay: map[int64]int64{n - 1: -4}}, i, func(want *state) {
			want.words[n-1], want.regs[15], want.pc = int64(want.pc), n-1, 300
		})
	}
	for n, how := range map[int64]uint8{
		0: api.RunStack, -1: api.RunStack, -1 << 32: api.RunStack, least + 1: api.RunStack,
		11: api.RunMemory, 12: api.RunMemory, 1<<32 + 1: api.RunMemory, most: api.RunMemory,
		least: api.RunMemory, // one less has gone round
	} {
		ends(t, setting{regs: regs{15: n}}, i, how)
	}
	for _, to := range []int{0, 1, lastPlace} {
		m := machine(t, code(api.Instr{Kind: api.MacCall, N: int64(to)}), 1)
		if how := m.Step(); how != api.RunGoes || m.Pc() != to || m.Words()[0] != 4 || m.Regs()[15] != 0 {
			t.Errorf("call of %d: %d, at %d, %v, %v", to, how, m.Pc(), m.Words(), m.Regs())
		}
	}
}

func TestRet(t *testing.T) {
	i := api.Instr{Kind: api.MacRet}
	for _, n := range []int64{0, 1, 9} {
		for _, to := range []int64{0, 1, 77, lastPlace - 1, lastPlace} {
			turns(t, setting{regs: regs{15: n}, lay: map[int64]int64{n: to}}, i, func(want *state) {
				want.regs[15], want.pc = n+1, int(to)
			})
		}
		for _, to := range []int64{-1, lastPlace + 1, lastPlace + 2, 1 << 32, 1<<32 + 1, -1 << 32, least, most} {
			ends(t, setting{regs: regs{15: n}, lay: map[int64]int64{n: to}}, i, api.RunCode)
		}
	}
	for _, n := range []int64{-1, 10, 11, 1 << 32, -1 << 32, least, most} {
		ends(t, setting{regs: regs{15: n}, lay: map[int64]int64{0: 5, 9: 5}}, i, api.RunMemory)
	}
}

func TestFrame(t *testing.T) {
	for _, c := range []struct{ n, less int64 }{
		{10, 0}, {10, 1}, {10, 10}, {0, 0}, {0, -1}, {0, -10}, {5, -5}, {5, 5}, {65536, 65536}, {65536, 65526}, {-5, -5}, {-5, -15}, {-65536, -65536}, {12, 2}, {12, 12},
	} {
		turns(t, setting{regs: regs{15: c.n}}, api.Instr{Kind: api.MacFrame, N: c.less}, func(want *state) { want.regs[15] = c.n - c.less })
	}
	for _, c := range []struct {
		n, less int64
		how     uint8
	}{
		{10, 11, api.RunStack}, {10, 64, api.RunStack}, {0, 1, api.RunStack}, {0, 65536, api.RunStack}, {-1, 0, api.RunStack}, {-5, -4, api.RunStack}, {-5, 5, api.RunStack},
		{least, 0, api.RunStack}, {least, -65536, api.RunStack}, {-1 << 40, 1, api.RunStack},
		{10, -1, api.RunMemory}, {0, -11, api.RunMemory}, {11, 0, api.RunMemory}, {13, 2, api.RunMemory}, {10, -65536, api.RunMemory}, {most, 0, api.RunMemory}, {most, 65536, api.RunMemory}, {1 << 40, 1, api.RunMemory},
		{most, -1, api.RunStack}, {least, 1, api.RunMemory}, // gone round
	} {
		ends(t, setting{regs: regs{15: c.n}}, api.Instr{Kind: api.MacFrame, N: c.less}, c.how)
	}
	ends(t, setting{}, api.Instr{Kind: api.MacFrame, N: 64}, api.RunStack)
}

func TestIn(t *testing.T) {
	for _, r := range []int{0, 7, 15} {
		i := api.Instr{Kind: api.MacIn, R: r}
		m := setting{regs: regs{0: 4, 7: 5}, input: []int64{least, 0, 8}}.stand(t, i, i, i, i)
		want := told(m)
		for n, x := range []int64{least, 0, 8} {
			want.pc, want.regs[r], want.left = want.pc+2, x, 2-n
			if how := m.Step(); how != api.RunGoes {
				t.Errorf("in: %d", how)
			}
			isState(t, m, want)
		}
		want.how = api.RunInput
		if how := m.Step(); how != api.RunInput {
			t.Errorf("in, without an input: %d", how)
		}
		isState(t, m, want)
		ends(t, setting{regs: regs{0: 4, 7: 5}}, i, api.RunInput)
	}
}

func TestOut(t *testing.T) {
	list := []api.Instr{{Kind: api.MacOut, R: 1}, {Kind: api.MacOut, R: 2}, {Kind: api.MacOut, R: 15}, {Kind: api.MacOut, R: 1}}
	m := setting{regs: regs{1: least, 2: -3}}.stand(t, list...)
	want := told(m)
	for _, x := range []int64{least, -3, 10, least} {
		want.pc, want.out = want.pc+2, append(want.out, x)
		if how := m.Step(); how != api.RunGoes {
			t.Errorf("out: %d", how)
		}
		isState(t, m, want)
	}
}

// ending is an instruction that ends the run, in a setting.
type ending struct {
	setting
	i   api.Instr
	how uint8
}

// endings are all ways in which a run ends, with something to be seen in all that could be turned.
func endings() []ending {
	s := func(with regs) setting {
		all := setting{size: 4, lay: map[int64]int64{0: 5, 1: -1, 2: lastPlace + 1, 3: 8}, input: []int64{6}, regs: regs{1: 21, 2: 22, 3: 23, 8: -1, 9: 1}}
		for r, x := range with {
			all.regs[r] = x
		}
		return all
	}
	dry := s(nil)
	dry.input = nil
	list := []ending{
		{s(nil), api.Instr{Kind: api.MacHalt, R: 1}, api.RunHalt},
		{s(nil), api.Instr{Kind: api.MacHalt, R: 15}, api.RunHalt},
		{s(nil), api.Instr{Kind: api.MacHalt, R: 0}, api.RunHalt},
		{s(nil), api.Instr{Kind: api.MacBin, Op: api.OpDiv, R: 1, S: 2}, api.RunDiv},
		{s(nil), api.Instr{Kind: api.MacBin, Op: api.OpRem, R: 1, S: 2}, api.RunDiv},
		{s(nil), api.Instr{Kind: api.MacLoad, R: 1, S: 2}, api.RunMemory},
		{s(nil), api.Instr{Kind: api.MacStore, R: 1, S: 2}, api.RunMemory},
		{dry, api.Instr{Kind: api.MacIn, R: 1}, api.RunInput},
		{s(regs{15: 0}), api.Instr{Kind: api.MacCall}, api.RunStack},
		{s(regs{15: 5}), api.Instr{Kind: api.MacCall}, api.RunMemory},
		{s(nil), api.Instr{Kind: api.MacRet}, api.RunMemory},
		{s(regs{15: 1}), api.Instr{Kind: api.MacRet}, api.RunCode},
		{s(regs{15: 2}), api.Instr{Kind: api.MacRet}, api.RunCode},
		{s(nil), api.Instr{Kind: api.MacFrame, N: 5}, api.RunStack},
		{s(nil), api.Instr{Kind: api.MacFrame, N: -1}, api.RunMemory},
		{s(nil), api.Instr{Kind: api.MacTrap, N: 2}, api.RunDiv},
		{s(nil), api.Instr{Kind: api.MacTrap, N: 3}, api.RunIndex},
		{s(nil), api.Instr{Kind: api.MacTrap, N: 4}, api.RunInput},
	}
	for _, kind := range []uint8{api.MacPick, api.MacLay} {
		list = append(list,
			ending{s(nil), api.Instr{Kind: kind, R: 1, S: 0, T: 8, M: 4}, api.RunIndex},
			ending{s(nil), api.Instr{Kind: kind, R: 1, S: 0, T: 1, M: 21}, api.RunIndex},
			ending{s(nil), api.Instr{Kind: kind, R: 1, S: 3, T: 9, M: 4}, api.RunMemory})
	}
	return list
}

func TestAnEndTurnsNothingElse(t *testing.T) {
	for _, c := range endings() {
		ends(t, c.setting, c.i, c.how)
		// By Run too; and what stands behind it is not done.
		m := c.stand(t, c.i, api.Instr{Kind: api.MacNum, R: 1, N: 1})
		want := told(m)
		want.how = c.how
		if c.how == api.RunHalt {
			want.number, want.halted = want.regs[c.i.R], true
		}
		if how, left := m.Run(9); how != c.how || left != 8 {
			t.Errorf("Run of %+v: %d, %d", c.i, how, left)
		}
		isState(t, m, want)
	}
}

func TestNoInstructionThere(t *testing.T) {
	for _, b := range []string{
		"", "\x00", "\x13", "\xff", "\x02", "\x02\x10\x00", "\x02\x00\x80\x00", "\x04\x0e\x00\x00", "\x05\x01\x00", "\x08\x00\x00\x00\x00", "\x0a\x00\x00", "\x0e\x81\x80\x04", "\x12\x01", "\x12\x05",
	} {
		whole := code(api.Instr{Kind: api.MacNum, R: 1, N: 7}, api.Instr{Kind: api.MacOut, R: 1})
		m := machine(t, append(whole, b...), 3, 4)
		if how, left := m.Run(2); how != api.RunGoes || left != 0 {
			t.Fatal(how, left)
		}
		want := told(m)
		want.how = api.RunCode
		if how := m.Step(); how != api.RunCode || m.Pc() != len(whole) {
			t.Errorf("at %x: %d, at %d", b, how, m.Pc())
		}
		isState(t, m, want)
	}
}

func TestBehindTheCodesEnd(t *testing.T) {
	for _, to := range []int{4, 5, 100, mostCode, lastPlace} {
		m := machine(t, code(api.Instr{Kind: api.MacJump, N: int64(to)}), 3)
		if how := m.Step(); how != api.RunGoes || m.Pc() != to {
			t.Errorf("jump to %d: %d, at %d", to, how, m.Pc())
		}
		want := told(m)
		want.how = api.RunCode
		if how := m.Step(); how != api.RunCode {
			t.Errorf("at %d: %d", to, how)
		}
		isState(t, m, want)
	}
}

// A place may be gone to at which no instruction of the list begins: what stands there counts.
func TestIntoTheMidstOfAnInstruction(t *testing.T) {
	ahead := code(api.Instr{Kind: api.MacJump, N: 6})
	m := machine(t, append(ahead, code(api.Instr{Kind: api.MacNum, R: 1, N: int64(api.MacRet)})...), 2)
	if how := m.Step(); how != api.RunGoes || m.Pc() != 6 {
		t.Errorf("jump: %d, at %d", how, m.Pc())
	}
	if how := m.Step(); how != api.RunMemory || m.Pc() != 6 {
		t.Errorf("ret without a word: %d, at %d", how, m.Pc())
	}
}

func TestEachRegister(t *testing.T) {
	for r := range api.Regs {
		s := setting{regs: regs{r: 3}, lay: map[int64]int64{3: 44}, input: []int64{12}}
		sets(t, s, api.Instr{Kind: api.MacMove, R: r, S: (r + 1) % 15}, 0)
		sets(t, s, api.Instr{Kind: api.MacLoad, R: r, S: r}, 44)
		sets(t, s, api.Instr{Kind: api.MacPick, R: r, S: r, T: (r + 1) % 15, M: 1}, 44)
		sets(t, s, api.Instr{Kind: api.MacBin, Op: api.OpMul, R: r, S: r, T: r}, 9)
		sets(t, s, api.Instr{Kind: api.MacUn, Op: api.OpNeg, R: r, S: r}, -3)
		turns(t, s, api.Instr{Kind: api.MacIn, R: r}, func(want *state) { want.regs[r], want.left = 12, 0 })
		turns(t, s, api.Instr{Kind: api.MacOut, R: r}, func(want *state) { want.out = []int64{3} })
		turns(t, s, api.Instr{Kind: api.MacStore, R: r, S: r, N: 2}, func(want *state) { want.words[5] = 3 })
		turns(t, s, api.Instr{Kind: api.MacZero, R: r}, func(*state) {})
		ends(t, s, api.Instr{Kind: api.MacHalt, R: r}, api.RunHalt)
	}
}
