package cpu

import (
	"theodolite/api"
	"theodolite/isa"
)

const (
	top    = api.Regs - 1 // the register that says where the stack's last word is
	places = 1 << 24      // a place of the code is below it
)

// end is what is thrown when a run ends: how, and of a halt the number.
type end struct {
	how uint8
	num int64
}

// do does the instruction at pc, of a machine that goes. Whatever ends the run is thrown ahead of the first thing that the instruction turns: so a step that ends it turns nothing.
func (m *Machine) do() {
	defer func() {
		if x, is := recover().(end); is {
			m.ended = x
		}
	}()
	i, next, e := isa.Get(m.code, m.pc)
	if e != api.OK {
		panic(end{how: api.RunCode})
	}
	m.pc = m.done(i, next)
}

// done does an instruction, and answers where the run goes on: at next, if nothing else is said.
func (m *Machine) done(i api.Instr, next int) int {
	switch i.Kind {
	case api.MacNum:
		m.regs[i.R] = i.N
	case api.MacMove:
		m.regs[i.R] = m.regs[i.S]
	case api.MacBin:
		m.regs[i.R] = binary(i.Op, m.regs[i.S], m.regs[i.T])
	case api.MacUn:
		m.regs[i.R] = unary(i.Op, m.regs[i.S])
	case api.MacLoad:
		m.regs[i.R] = *m.word(m.regs[i.S] + i.N)
	case api.MacStore:
		*m.word(m.regs[i.S] + i.N) = m.regs[i.R]
	case api.MacPick:
		m.regs[i.R] = *m.part(i)
	case api.MacLay:
		*m.part(i) = m.regs[i.R]
	case api.MacJump:
		return int(i.N)
	case api.MacZero:
		if m.regs[i.R] == 0 {
			return int(i.N)
		}
	case api.MacCall:
		m.push(int64(next))
		return int(i.N)
	case api.MacRet:
		return m.back()
	case api.MacFrame:
		m.frame(i.N)
	case api.MacIn:
		m.regs[i.R] = m.read()
	case api.MacOut:
		m.out = append(m.out, m.regs[i.R])
	case api.MacHalt:
		panic(end{how: api.RunHalt, num: m.regs[i.R]})
	case api.MacTrap:
		panic(end{how: uint8(i.N)})
	}
	return next
}

// has tells whether there is such a word.
func (m *Machine) has(at int64) bool { return at >= 0 && at < int64(len(m.words)) }

// word is where such a word stands.
func (m *Machine) word(at int64) *int64 {
	if !m.has(at) {
		panic(end{how: api.RunMemory})
	}
	return &m.words[at]
}

// part is where the word stands that a MacPick or a MacLay names.
func (m *Machine) part(i api.Instr) *int64 {
	t := m.regs[i.T]
	if t < 0 || t >= i.M {
		panic(end{how: api.RunIndex})
	}
	return m.word(m.regs[i.S] + i.N + t)
}

// push lays a number on the stack.
func (m *Machine) push(x int64) {
	at := m.regs[top] - 1
	if at < 0 {
		panic(end{how: api.RunStack})
	}
	*m.word(at) = x
	m.regs[top] = at
}

// back takes the place to go back to from the stack.
func (m *Machine) back() int {
	to := *m.word(m.regs[top])
	if to < 0 || to >= places {
		panic(end{how: api.RunCode})
	}
	m.regs[top]++
	return int(to)
}

// frame makes room for n words on the stack; below 0, it gives so much back.
func (m *Machine) frame(n int64) {
	at := m.regs[top] - n
	switch {
	case at < 0:
		panic(end{how: api.RunStack})
	case at > int64(len(m.words)):
		panic(end{how: api.RunMemory})
	}
	m.regs[top] = at
}

// read takes the first input that is left.
func (m *Machine) read() int64 {
	if len(m.input) == 0 {
		panic(end{how: api.RunInput})
	}
	x := m.input[0]
	m.input = m.input[1:]
	return x
}

func binary(op uint8, a, b int64) int64 {
	switch op {
	case api.OpAdd:
		return a + b
	case api.OpSub:
		return a - b
	case api.OpMul:
		return a * b
	case api.OpDiv:
		return a / divisor(b)
	case api.OpRem:
		return a % divisor(b)
	case api.OpEq:
		return truth(a == b)
	case api.OpNe:
		return truth(a != b)
	case api.OpLt:
		return truth(a < b)
	case api.OpLe:
		return truth(a <= b)
	case api.OpGt:
		return truth(a > b)
	case api.OpGe:
		return truth(a >= b)
	case api.OpAnd:
		return a & b
	}
	return a | b // OpOr: no other one is left that a right instruction has
}

// divisor is b, by which something is divided. (The least number by -1 needs no care: the language's own / and % answer itself and 0.)
func divisor(b int64) int64 {
	if b == 0 {
		panic(end{how: api.RunDiv})
	}
	return b
}

func truth(is bool) int64 {
	if is {
		return 1
	}
	return 0
}

func unary(op uint8, a int64) int64 {
	if op == api.OpNot {
		return 1 - a
	}
	return -a
}
