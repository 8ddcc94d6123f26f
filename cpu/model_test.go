package cpu_test

import (
	"math/big"
	"slices"
	"testing"

	"theodolite/api"
	"theodolite/cpu"
	"theodolite/isa"
)

const lastPlace = 1<<24 - 1

// state is all that a machine tells.
type state struct {
	how    uint8
	pc     int
	regs   []int64
	words  []int64
	out    []int64
	left   int
	number int64
	halted bool
}

func told(m *cpu.Machine) state {
	s := state{how: m.How(), pc: m.Pc(), regs: m.Regs(), words: m.Words(), out: m.Out(), left: m.Left()}
	s.number, s.halted = m.Halted()
	return s.clone() // in memory of its own, whatever the machine answers
}

func (s state) clone() state {
	s.regs, s.words, s.out = slices.Clone(s.regs), slices.Clone(s.words), slices.Clone(s.out)
	return s
}

// plain tells whether two are the same but for their lists.
func (s state) plain(o state) bool {
	return s.how == o.how && s.pc == o.pc && s.left == o.left && s.number == o.number && s.halted == o.halted
}

func isState(t *testing.T, m *cpu.Machine, want state) {
	t.Helper()
	got := told(m)
	if !got.plain(want) {
		t.Errorf("how %d, pc %d, %d left, halted %d %v; not how %d, pc %d, %d left, halted %d %v",
			got.how, got.pc, got.left, got.number, got.halted, want.how, want.pc, want.left, want.number, want.halted)
	}
	if !slices.Equal(got.regs, want.regs) {
		t.Errorf("registers %v, not %v", got.regs, want.regs)
	}
	if !slices.Equal(got.out, want.out) {
		t.Errorf("outputs %v, not %v", got.out, want.out)
	}
	if len(got.words) != len(want.words) {
		t.Errorf("%d words, not %d", len(got.words), len(want.words))
		return
	}
	for i, x := range got.words {
		if x != want.words[i] {
			t.Errorf("word %d is %d, not %d", i, x, want.words[i])
		}
		if y, is := m.Word(int64(i)); y != x || !is {
			t.Errorf("word %d is %d, told alone %d, %v", i, x, y, is)
		}
	}
}

func code(list ...api.Instr) []byte {
	var b []byte
	for _, i := range list {
		b = isa.Put(b, i)
	}
	return b
}

func machine(t *testing.T, code []byte, words int, input ...int64) *cpu.Machine {
	t.Helper()
	m, e := cpu.New(code, 0, words, input)
	if m == nil || e != api.OK {
		t.Fatalf("New: error %d", e)
	}
	return m
}

type regs map[int]int64

// setting is what a machine has when an instruction is to be done: so many words (10, if nothing is said), what lies in them, registers, inputs.
type setting struct {
	size  int
	lay   map[int64]int64
	regs  regs
	input []int64
}

// stand is a machine in that setting, about to do the first one of the instructions.
func (s setting) stand(t *testing.T, list ...api.Instr) *cpu.Machine {
	t.Helper()
	size := s.size
	if size == 0 {
		size = 10
	}
	var ahead []api.Instr
	for at, x := range s.lay {
		ahead = append(ahead, api.Instr{Kind: api.MacNum, R: 0, N: x}, api.Instr{Kind: api.MacNum, R: 1, N: at}, api.Instr{Kind: api.MacStore, R: 0, S: 1})
	}
	for r := range api.Regs - 1 {
		ahead = append(ahead, api.Instr{Kind: api.MacNum, R: r, N: s.regs[r]})
	}
	if x, is := s.regs[15]; is {
		ahead = append(ahead, api.Instr{Kind: api.MacNum, R: 15, N: x})
	}
	m := machine(t, code(append(slices.Clone(ahead), list...)...), size, s.input...)
	if how, left := m.Run(len(ahead)); how != api.RunGoes || left != 0 {
		t.Fatalf("what stands ahead: %d, %d", how, left)
	}
	return m
}

// The chapter's words once more, in numbers that have no bounds.

// ended is what a step of the model answers.
type ended struct {
	how    uint8
	number int64
}

func round(x *big.Int) int64 {
	low := new(big.Int).And(x, new(big.Int).SetUint64(1<<64-1)) // of a number below 0, too: And takes it as if it had endless ones
	return int64(low.Uint64())
}

func sum(list ...int64) int64 {
	x := new(big.Int)
	for _, n := range list {
		x.Add(x, big.NewInt(n))
	}
	return round(x)
}

// model does one step of a state that goes; the input that is next is handed in.
func model(s state, code []byte, next int64) state {
	after := s.clone()
	i, behind, e := isa.Get(code, s.pc)
	end := ended{how: api.RunCode}
	if e == api.OK {
		after.pc = behind
		end = after.done(i, next)
	}
	if end.how != api.RunGoes {
		after = s.clone()
		after.how = end.how
		after.number, after.halted = end.number, end.how == api.RunHalt
	}
	return after
}

func (s *state) done(i api.Instr, next int64) ended {
	r, a, b := &s.regs[i.R], s.regs[i.S], s.regs[i.T]
	switch i.Kind {
	case api.MacNum:
		*r = i.N
	case api.MacMove:
		*r = a
	case api.MacBin:
		x, how := modelBinary(i.Op, a, b)
		*r = x
		return ended{how: how}
	case api.MacUn:
		one := int64(0)
		if i.Op == api.OpNot {
			one = 1
		}
		*r = round(new(big.Int).Sub(big.NewInt(one), big.NewInt(a)))
	case api.MacLoad, api.MacPick, api.MacStore, api.MacLay:
		return s.reach(i)
	case api.MacJump:
		s.pc = int(i.N)
	case api.MacZero:
		if *r == 0 {
			s.pc = int(i.N)
		}
	case api.MacCall, api.MacRet, api.MacFrame:
		return s.stack(i)
	case api.MacIn:
		if s.left == 0 {
			return ended{how: api.RunInput}
		}
		*r = next
		s.left--
	case api.MacOut:
		s.out = append(s.out, *r)
	case api.MacHalt:
		return ended{api.RunHalt, *r}
	case api.MacTrap:
		return ended{how: uint8(i.N)}
	}
	return ended{}
}

func (s *state) reach(i api.Instr) ended {
	at := sum(s.regs[i.S], i.N)
	if i.Kind == api.MacPick || i.Kind == api.MacLay {
		if t := s.regs[i.T]; t < 0 || t > i.M-1 {
			return ended{how: api.RunIndex}
		}
		at = sum(s.regs[i.S], i.N, s.regs[i.T])
	}
	if at < 0 || at > int64(len(s.words))-1 {
		return ended{how: api.RunMemory}
	}
	if i.Kind == api.MacLoad || i.Kind == api.MacPick {
		s.regs[i.R] = s.words[at]
	} else {
		s.words[at] = s.regs[i.R]
	}
	return ended{}
}

func (s *state) stack(i api.Instr) ended {
	n, last := s.regs[15], int64(len(s.words))-1
	switch i.Kind {
	case api.MacCall:
		less := sum(n, -1)
		if less < 0 {
			return ended{how: api.RunStack}
		}
		if less > last {
			return ended{how: api.RunMemory}
		}
		s.regs[15], s.words[less], s.pc = less, int64(s.pc), int(i.N)
	case api.MacRet:
		if n < 0 || n > last {
			return ended{how: api.RunMemory}
		}
		to := s.words[n]
		if to < 0 || to > 1<<24-1 {
			return ended{how: api.RunCode}
		}
		s.pc, s.regs[15] = int(to), sum(n, 1)
	case api.MacFrame:
		less := sum(n, -i.N)
		if less < 0 {
			return ended{how: api.RunStack}
		}
		if less > last+1 {
			return ended{how: api.RunMemory}
		}
		s.regs[15] = less
	}
	return ended{}
}

func modelBinary(op uint8, a, b int64) (int64, uint8) {
	x, y, z := big.NewInt(a), big.NewInt(b), new(big.Int)
	truth := func(is bool) (int64, uint8) {
		if is {
			return 1, api.RunGoes
		}
		return 0, api.RunGoes
	}
	switch op {
	case api.OpAdd:
		z.Add(x, y)
	case api.OpSub:
		z.Sub(x, y)
	case api.OpMul:
		z.Mul(x, y)
	case api.OpDiv, api.OpRem:
		if b == 0 {
			return 0, api.RunDiv
		}
		rest := new(big.Int)
		z.QuoRem(x, y, rest)
		if op == api.OpRem {
			z = rest
		}
	case api.OpEq:
		return truth(x.Cmp(y) == 0)
	case api.OpNe:
		return truth(x.Cmp(y) != 0)
	case api.OpLt:
		return truth(x.Cmp(y) < 0)
	case api.OpLe:
		return truth(x.Cmp(y) <= 0)
	case api.OpGt:
		return truth(x.Cmp(y) > 0)
	case api.OpGe:
		return truth(x.Cmp(y) >= 0)
	case api.OpAnd:
		z.And(x, y)
	case api.OpOr:
		z.Or(x, y)
	}
	return round(z), api.RunGoes
}

// dice are numbers that look thrown, and are the same each time.
type dice uint64

func (d *dice) below(n int) int {
	*d = *d*6364136223846793005 + 1442695040888963407
	return int(uint64(*d)>>33) % n
}

func pick[T any](d *dice, list ...T) T { return list[d.below(len(list))] }

// thrown is a right instruction: its registers are few, so that it meets what others left there.
func (d *dice) thrown(size int) api.Instr {
	reg := func() int { return pick(d, 0, 1, 2, 3, 4, 15) }
	near := func() int64 { return pick[int64](d, 0, 0, 1, 2, -1, -2, 3, 7, 64, 65536, -65536) }
	to := func() int64 { return int64(pick(d, d.below(size+1), d.below(size+1), d.below(size+1), lastPlace)) }
	i := api.Instr{Kind: uint8(1 + d.below(18))}
	if d.below(4) > 0 && (i.Kind == api.MacHalt || i.Kind == api.MacTrap) { // few of them, or nothing goes far
		i.Kind = api.MacNum
	}
	switch i.Kind {
	case api.MacNum:
		i.R, i.N = reg(), pick[int64](d, 0, 1, 2, 3, 5, -1, 8, 9, 10, 11, 1<<62, 1<<63-1, -1<<63, int64(d.below(size+1)))
	case api.MacMove:
		i.R, i.S = reg(), reg()
	case api.MacBin:
		i.Op, i.R, i.S, i.T = uint8(1+d.below(13)), reg(), reg(), reg()
	case api.MacUn:
		i.Op, i.R, i.S = pick(d, api.OpNot, api.OpNeg), reg(), reg()
	case api.MacLoad, api.MacStore:
		i.R, i.S, i.N = reg(), reg(), near()
	case api.MacPick, api.MacLay:
		i.R, i.S, i.T, i.N, i.M = reg(), reg(), reg(), near(), pick[int64](d, 1, 2, 3, 9, 11, 65536)
	case api.MacJump, api.MacCall:
		i.N = to()
	case api.MacZero:
		i.R, i.N = reg(), to()
	case api.MacFrame:
		i.N = near()
	case api.MacIn, api.MacOut, api.MacHalt:
		i.R = reg()
	case api.MacTrap:
		i.N = int64(2 + d.below(3))
	}
	return i
}

// follows runs a machine beside the model, step by step; it answers how it stands in the end.
func follows(t *testing.T, b []byte, start, words, steps int, input []int64) uint8 {
	t.Helper()
	m, e := cpu.New(b, start, words, input)
	if e != api.OK {
		t.Fatalf("New: error %d", e)
	}
	want := told(m)
	for range steps {
		if want.how == api.RunGoes {
			next := int64(0)
			if want.left > 0 {
				next = input[len(input)-want.left]
			}
			want = model(want, b, next)
		}
		if how := m.Step(); how != want.how {
			t.Errorf("a step: %d, not %d", how, want.how)
		}
		isState(t, m, want)
		if t.Failed() {
			i, _, e := isa.Get(b, want.pc)
			t.Fatalf("in %x from %d, with %d words, near %+v (%d)", b, start, words, i, e)
		}
	}
	again, _ := cpu.New(b, start, words, input)
	again.Run(steps)
	isState(t, again, want)
	return want.how
}

func TestThrownProgramsGoAsTheWordsSay(t *testing.T) {
	d := dice(1)
	ends := map[uint8]int{}
	for range 20000 {
		var list []api.Instr
		for range 1 + d.below(24) {
			list = append(list, d.thrown(80))
		}
		input := []int64{3, -1, 1, 0, 1 << 40}[:d.below(6)]
		b := code(list...)
		start := 0
		if d.below(4) == 0 {
			start = d.below(len(b) + 1)
		}
		ends[follows(t, b, start, 1+d.below(12), 60, input)]++
	}
	for how := api.RunGoes; how <= api.RunStack; how++ {
		if ends[how] < 100 { // or the programs are no test of it
			t.Errorf("only %d programs ended with %d", ends[how], how)
		}
	}
}

func TestThrownBytesGoAsTheWordsSay(t *testing.T) {
	d := dice(2)
	for range 20000 {
		b := make([]byte, d.below(30))
		for i := range b {
			b[i] = byte(pick(&d, d.below(256), d.below(20), d.below(20), d.below(4)))
		}
		follows(t, b, d.below(len(b)+1), 1+d.below(5), 12, []int64{5, -6}[:d.below(3)])
	}
}
