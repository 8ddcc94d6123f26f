package build

import "theodolite/api"

// maker makes a function's blocks, one behind the other, of which only the last one may still go on. Ends that lead to what is made next wait for it, and its block begins as something is laid into it: so a way leads to each block, and there are few of them.
type maker struct {
	f       api.Func
	goesOn  bool
	waiting []func(to int) // lets an end that waits go to a block
}

// isReached tells whether a way leads to what is made next.
func (m *maker) isReached() bool { return m.goesOn || len(m.waiting) > 0 }

// begin begins a block, to which the ends go that wait, and answers its number.
func (m *maker) begin() int {
	n := len(m.f.Blocks)
	m.f.Blocks = append(m.f.Blocks, api.Block{})
	m.goesOn = true
	m.lead(n)
	return n
}

// lead lets the ends that wait go to a block.
func (m *maker) lead(to int) {
	for _, goTo := range m.waiting {
		goTo(to)
	}
	m.waiting = nil
}

// last is the block that goes on; a new one, if none does.
func (m *maker) last() *api.Block {
	if !m.goesOn {
		m.begin()
	}
	return &m.f.Blocks[len(m.f.Blocks)-1]
}

// lay lays an instruction.
func (m *maker) lay(i api.Ins) {
	b := m.last()
	b.Ins = append(b.Ins, i)
}

// virtual lays an instruction that makes a virtual, and answers that.
func (m *maker) virtual(i api.Ins) int {
	i.Dst = m.f.Size
	m.f.Size++
	m.lay(i)
	return i.Dst
}

// end ends the block that goes on, and answers its number.
func (m *maker) end(t api.Term) int {
	m.last().Term = t
	m.goesOn = false
	return len(m.f.Blocks) - 1
}

// giveBack ends the function there, with a virtual (-1: none).
func (m *maker) giveBack(a int) { m.end(api.Term{Kind: api.TermRet, A: a}) }

// jump ends the block that goes on, if one does, so that what is made next is in another one.
func (m *maker) jump() {
	if !m.goesOn {
		return
	}
	n := m.end(api.Term{Kind: api.TermJump})
	m.waiting = append(m.waiting, func(to int) { m.f.Blocks[n].Term.To = to })
}

// fork ends the block with two ways on, and answers what lets each of them go to a block.
func (m *maker) fork(a int) (yes, no func(to int)) {
	n := m.end(api.Term{Kind: api.TermIf, A: a})
	yes = func(to int) { m.f.Blocks[n].Term.To = to }
	no = func(to int) { m.f.Blocks[n].Term.Else = to }
	return yes, no
}

// loop begins a block that is met again, and answers what leads all ways back to it that are open then. As it is never the block that goes on, it is not the first one.
func (m *maker) loop() (again func()) {
	m.jump()
	head := m.begin()
	return func() {
		m.jump()
		m.lead(head)
	}
}
