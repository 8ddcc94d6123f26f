package cpu_test

import (
	"bytes"
	"math"
	"slices"
	"testing"

	"theodolite/api"
	"theodolite/cpu"
)

const mostCode = 1 << 20

// P4.1

func TestNewTakesWhatItMay(t *testing.T) {
	for _, c := range []struct{ size, start, words int }{
		{0, 0, 1}, {0, 0, 2}, {0, 0, api.MaxMemory},
		{1, 0, 1}, {1, 1, 1}, {7, 3, 10}, {7, 7, 10},
		{mostCode, 0, 1}, {mostCode, mostCode - 1, 1}, {mostCode, mostCode, api.MaxMemory},
		{5, 0, api.MaxMemory - 1}, {5, 0, api.MaxMemory},
	} {
		m, e := cpu.New(make([]byte, c.size), c.start, c.words, []int64{4, -5})
		if m == nil || e != api.OK {
			t.Errorf("New of %d bytes, %d, %d: error %d", c.size, c.start, c.words, e)
			continue
		}
		want := state{how: api.RunGoes, pc: c.start, regs: make([]int64, 16), words: make([]int64, c.words), left: 2}
		want.regs[15] = int64(c.words)
		isState(t, m, want)
	}
}

func TestNewRefusesWhatItMayNot(t *testing.T) {
	for _, c := range []struct{ size, start, words int }{
		{mostCode + 1, 0, 10}, {mostCode + 1, mostCode + 1, 10}, {2 * mostCode, 5, 1},
		{0, -1, 10}, {0, 1, 10}, {7, -1, 10}, {7, 8, 10}, {mostCode, mostCode + 1, 10},
		{7, math.MinInt, 10}, {7, math.MaxInt, 10}, {7, 1 << 32, 10}, {7, -1 << 32, 10},
		{7, 0, 0}, {7, 0, -1}, {7, 0, api.MaxMemory + 1}, {0, 0, 0},
		{7, 0, math.MinInt}, {7, 0, math.MaxInt}, {7, 0, 1<<32 + 10},
		{mostCode + 1, -1, 0},
	} {
		if m, e := cpu.New(make([]byte, c.size), c.start, c.words, []int64{1}); m != nil || e != api.ErrArg {
			t.Errorf("New of %d bytes, %d, %d: a machine: %v, error %d", c.size, c.start, c.words, m != nil, e)
		}
	}
}

func TestNewOfNothing(t *testing.T) {
	for _, code := range [][]byte{nil, {}} {
		for _, input := range [][]int64{nil, {}} {
			m, e := cpu.New(code, 0, 1, input)
			if e != api.OK {
				t.Fatal(e)
			}
			want := state{regs: make([]int64, 16), words: make([]int64, 1)}
			want.regs[15] = 1
			isState(t, m, want)
			want.how = api.RunCode
			if how := m.Step(); how != api.RunCode {
				t.Errorf("a step without code: %d", how)
			}
			isState(t, m, want)
		}
	}
}

func TestWord(t *testing.T) {
	m := setting{size: 3, lay: map[int64]int64{0: 7, 1: -8, 2: math.MinInt64}}.stand(t)
	for at, want := range []int64{7, -8, math.MinInt64} {
		if x, is := m.Word(int64(at)); x != want || !is {
			t.Errorf("word %d: %d, %v, not %d", at, x, is, want)
		}
	}
	for _, at := range []int64{-1, 3, 4, -3, 1 << 32, 1<<32 + 1, -1 << 32, math.MaxInt64, math.MinInt64} {
		if x, is := m.Word(at); x != 0 || is {
			t.Errorf("word %d: %d, %v", at, x, is)
		}
	}
}

func TestHalted(t *testing.T) {
	for _, n := range []int64{0, 1, -1, math.MaxInt64, math.MinInt64} {
		m := setting{regs: regs{4: n}}.stand(t, api.Instr{Kind: api.MacHalt, R: 4})
		if x, is := m.Halted(); x != 0 || is {
			t.Errorf("halted ahead of it: %d, %v", x, is)
		}
		m.Step()
		if x, is := m.Halted(); x != n || !is {
			t.Errorf("halted with %d: %d, %v", n, x, is)
		}
	}
	for how := api.RunDiv; how <= api.RunInput; how++ {
		m := setting{regs: regs{0: 5, 1: 6}}.stand(t, api.Instr{Kind: api.MacTrap, N: int64(how)})
		m.Step()
		if x, is := m.Halted(); x != 0 || is || m.How() != how {
			t.Errorf("a run that ended with %d halted: %d, %v", how, x, is)
		}
	}
}

func TestNoMachine(t *testing.T) {
	var m *cpu.Machine
	if how, pc, left := m.How(), m.Pc(), m.Left(); how != api.RunCode || pc != 0 || left != 0 {
		t.Errorf("of no machine: %d, %d, %d", how, pc, left)
	}
	if len(m.Regs()) != 0 || len(m.Words()) != 0 || len(m.Out()) != 0 {
		t.Errorf("of no machine: %v, %v, %v", m.Regs(), m.Words(), m.Out())
	}
	for _, at := range []int64{-1, 0, 1, math.MaxInt64, math.MinInt64} {
		if x, is := m.Word(at); x != 0 || is {
			t.Errorf("of no machine: word %d: %d, %v", at, x, is)
		}
	}
	if x, is := m.Halted(); x != 0 || is {
		t.Errorf("of no machine: halted: %d, %v", x, is)
	}
	for range 2 {
		if how := m.Step(); how != api.RunCode {
			t.Errorf("of no machine: a step: %d", how)
		}
	}
	// No step of it is done, so that none takes anything.
	for fuel, want := range map[int]int{0: 0, 1: 1, 9: 9, math.MaxInt: math.MaxInt, -1: 0, math.MinInt: 0} {
		if how, left := m.Run(fuel); how != api.RunCode || left != want {
			t.Errorf("of no machine: Run(%d): %d, %d", fuel, how, left)
		}
	}
}

// P4.3, and the chapter's examples

func TestExampleOfRun(t *testing.T) {
	m := machine(t, []byte("\x02\x01\x07\x10\x01\x11\x01"), 10)
	if how, left := m.Run(2); how != api.RunGoes || left != 0 || !slices.Equal(m.Out(), []int64{7}) {
		t.Errorf("Run(2): %d, %d, %v", how, left, m.Out())
	}
	how, left := m.Run(5)
	if x, is := m.Halted(); how != api.RunHalt || left != 4 || x != 7 || !is {
		t.Errorf("Run(5): %d, %d, halted: %d, %v", how, left, x, is)
	}
	m = machine(t, []byte("\x0f\x00"), 10)
	if how := m.Step(); how != api.RunInput || m.Pc() != 0 {
		t.Errorf("in: %d, at %d", how, m.Pc())
	}
	m = machine(t, []byte("\x0e\xc0\x00"), 10)
	if how := m.Step(); how != api.RunStack || m.Regs()[15] != 10 {
		t.Errorf("frame: %d, %v", how, m.Regs())
	}
}

func TestHowMuchOfAFuelIsLeft(t *testing.T) {
	// Four steps, of which the last one ends the run.
	four := code(api.Instr{Kind: api.MacNop}, api.Instr{Kind: api.MacOut, R: 15}, api.Instr{Kind: api.MacNop}, api.Instr{Kind: api.MacHalt})
	for _, c := range []struct {
		fuel, left int
		how        uint8
		pc         int
	}{
		{math.MinInt, 0, api.RunGoes, 0}, {-5, 0, api.RunGoes, 0}, {-1, 0, api.RunGoes, 0}, {0, 0, api.RunGoes, 0},
		{1, 0, api.RunGoes, 1}, {2, 0, api.RunGoes, 3}, {3, 0, api.RunGoes, 4},
		{4, 0, api.RunHalt, 4}, {5, 1, api.RunHalt, 4}, {100, 96, api.RunHalt, 4},
		{math.MaxInt, math.MaxInt - 4, api.RunHalt, 4},
	} {
		m := machine(t, four, 3)
		if how, left := m.Run(c.fuel); how != c.how || left != c.left || m.How() != c.how || m.Pc() != c.pc {
			t.Errorf("Run(%d): %d, %d, at %d", c.fuel, how, left, m.Pc())
		}
	}
}

func TestRunTellsHowItEnded(t *testing.T) {
	for _, c := range []struct {
		i    api.Instr
		want uint8
	}{
		{api.Instr{Kind: api.MacHalt}, api.RunHalt},
		{api.Instr{Kind: api.MacBin, Op: api.OpDiv}, api.RunDiv},
		{api.Instr{Kind: api.MacPick, T: 15, M: 1}, api.RunIndex},
		{api.Instr{Kind: api.MacIn}, api.RunInput},
		{api.Instr{Kind: api.MacJump, N: lastPlace}, api.RunCode},
		{api.Instr{Kind: api.MacRet}, api.RunMemory},
		{api.Instr{Kind: api.MacFrame, N: 65536}, api.RunStack},
	} {
		m := machine(t, code(c.i), 5)
		steps := 1
		if c.i.Kind == api.MacJump {
			steps = 2 // where it goes there is nothing
		}
		if how, left := m.Run(10); how != c.want || left != 10-steps {
			t.Errorf("Run of %+v: %d, %d, not %d, %d", c.i, how, left, c.want, 10-steps)
		}
		for _, fuel := range []int{10, 0, -3} {
			if how, left := m.Run(fuel); how != c.want || left != max(fuel, 0) {
				t.Errorf("Run(%d) of what ended with %d: %d, %d", fuel, c.want, how, left)
			}
		}
	}
}

func TestWhatNeverEndsTakesItsFuel(t *testing.T) {
	m := machine(t, code(api.Instr{Kind: api.MacJump}), 1)
	for _, fuel := range []int{1, 1000, 0, -1, 12345} {
		if how, left := m.Run(fuel); how != api.RunGoes || left != 0 || m.Pc() != 0 {
			t.Errorf("Run(%d): %d, %d, at %d", fuel, how, left, m.Pc())
		}
	}
}

// What follows

// count prints 3, 2, 1, 0 - each of them from within a call - and halts with what is read then.
func count() []byte {
	sub := api.Instr{Kind: api.MacBin, Op: api.OpSub, R: 1, S: 1, T: 2}
	ahead := []api.Instr{
		{Kind: api.MacNum, R: 1, N: 4}, {Kind: api.MacNum, R: 2, N: 1},
		{Kind: api.MacZero, R: 1, N: 0}, {Kind: api.MacCall, N: 0}, {Kind: api.MacJump, N: 0},
		{Kind: api.MacIn, R: 3}, {Kind: api.MacHalt, R: 3},
	}
	ahead[2].N = int64(len(code(ahead[:5]...)))
	ahead[3].N = int64(len(code(ahead...)))
	ahead[4].N = int64(len(code(ahead[:2]...)))
	return code(append(ahead, api.Instr{Kind: api.MacFrame, N: 2}, api.Instr{Kind: api.MacStore, R: 1, S: 15}, sub,
		api.Instr{Kind: api.MacOut, R: 1}, api.Instr{Kind: api.MacFrame, N: -2}, api.Instr{Kind: api.MacRet})...)
}

func TestToRunTwiceIsToRunBoth(t *testing.T) {
	whole := machine(t, count(), 4, 77, 78)
	how, rest := whole.Run(1000)
	if x, is := whole.Halted(); how != api.RunHalt || x != 77 || !is || whole.Left() != 1 || !slices.Equal(whole.Out(), []int64{3, 2, 1, 0}) {
		t.Fatalf("%d, %d, %v, %v", how, x, is, whole.Out())
	}
	steps := 1000 - rest
	for a := -1; a <= steps+3; a++ {
		for _, b := range []int{-1, 0, 1, 2, 7, steps - a - 1, steps - a, steps - a + 1, 500} {
			once, twice, each := machine(t, count(), 4, 77, 78), machine(t, count(), 4, 77, 78), machine(t, count(), 4, 77, 78)
			how, left := once.Run(max(a, 0) + max(b, 0))
			_, first := twice.Run(a)
			end, second := twice.Run(b)
			if end != how || first+second != left {
				t.Errorf("Run(%d), Run(%d): %d, %d and %d left, not %d, %d", a, b, end, first, second, how, left)
			}
			for range max(a, 0) + max(b, 0) {
				end = each.Step()
			}
			if end != how && a+b > 0 {
				t.Errorf("%d steps: %d, not %d", a+b, end, how)
			}
			isState(t, twice, told(once))
			isState(t, each, told(once))
		}
	}
}

func TestWhatEndedStaysAsItIs(t *testing.T) {
	for _, c := range endings() {
		m := c.stand(t, c.i)
		m.Step()
		want := told(m)
		if m.How() == api.RunGoes {
			t.Errorf("%+v: it goes", c.i)
		}
		for _, fuel := range []int{1, 5, 0, -1, math.MinInt, math.MaxInt} {
			if how := m.Step(); how != want.how {
				t.Errorf("a step behind the end of %+v: %d, not %d", c.i, how, want.how)
			}
			isState(t, m, want)
			if how, left := m.Run(fuel); how != want.how || left != max(fuel, 0) {
				t.Errorf("Run(%d) behind the end of %+v: %d, %d", fuel, c.i, how, left)
			}
			isState(t, m, want)
		}
	}
}

// R3, R5

func TestWhatIsHandedInIsNotChanged(t *testing.T) {
	bytesBehind, inputsBehind := append(count(), 1, 2, 3), []int64{77, 78, 79, 80}
	mine, his := bytesBehind[:len(bytesBehind)-3], inputsBehind[:2]
	keptBytes, keptInputs := bytes.Clone(bytesBehind), slices.Clone(inputsBehind)
	m := machine(t, mine, 4, his...)
	m.Run(1000)
	if !bytes.Equal(bytesBehind, keptBytes) || !slices.Equal(inputsBehind, keptInputs) {
		t.Errorf("what was handed in is %x, %v", bytesBehind, inputsBehind)
	}
}

func TestWhatIsHandedInIsNotLookedAtAgain(t *testing.T) {
	want := machine(t, count(), 4, 77, 78)
	want.Run(1000)
	for at := range 40 {
		mine, his := count(), []int64{77, 78}
		m, e := cpu.New(mine, 0, 4, his)
		if e != api.OK {
			t.Fatal(e)
		}
		m.Run(at)
		for i := range mine {
			mine[i] = 0xff
		}
		his[0], his[1] = 0, 0
		m.Run(1000)
		isState(t, m, told(want))
	}
}

func TestCodeEndsWhereItsListDoes(t *testing.T) {
	whole := code(api.Instr{Kind: api.MacNum, R: 1, N: 5}, api.Instr{Kind: api.MacHalt, R: 1})
	for size := range whole {
		m := machine(t, whole[:size], 1)
		if how, _ := m.Run(5); how != api.RunCode || m.Pc() > size {
			t.Errorf("of %d bytes: %d, at %d", size, how, m.Pc())
		}
	}
}

func TestInputEndsWhereItsListDoes(t *testing.T) {
	whole := []int64{1, 2, 3}
	m := machine(t, code(api.Instr{Kind: api.MacIn}, api.Instr{Kind: api.MacIn, R: 1}), 1, whole[:1]...)
	if how, left := m.Run(5); how != api.RunInput || left != 3 || m.Regs()[0] != 1 || m.Regs()[1] != 0 {
		t.Errorf("%d, %d, %v", how, left, m.Regs())
	}
}

func TestWhatIsAnsweredIsNewMemory(t *testing.T) {
	m := machine(t, count(), 4, 77, 78)
	for range 40 {
		want := told(m)
		for _, l := range [][]int64{m.Regs(), m.Words(), m.Out()} {
			l = l[:cap(l)]
			for i := range l {
				l[i] = -99
			}
		}
		isState(t, m, want)
		regs, words, out := m.Regs(), m.Words(), m.Out()
		m.Step()
		if !slices.Equal(regs, want.regs) || !slices.Equal(words, want.words) || !slices.Equal(out, want.out) {
			t.Errorf("a step changed what was answered: %v, %v, %v", regs, words, out)
		}
	}
}

func TestMachinesStandAlone(t *testing.T) {
	mine, his := count(), []int64{77, 78}
	first, e := cpu.New(mine, 0, 4, his)
	second, f := cpu.New(mine, 0, 4, his)
	if e != api.OK || f != api.OK {
		t.Fatal(e, f)
	}
	fresh := told(second)
	first.Run(1000)
	isState(t, second, fresh)
	second.Run(1000)
	isState(t, second, told(first))
}
