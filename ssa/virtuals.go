package ssa

import (
	"theodolite/api"
	"theodolite/parts"
)

// virtuals finds numbers for what is new: the lowest that nothing makes that stays, so that they are enough also where the Size is as great as it may be.
type virtuals struct {
	made []bool
	at   int
	size int
}

func virtualsOf(f api.Func) virtuals {
	made := make([]bool, f.Size)
	for b := range f.Blocks {
		for n := range f.Blocks[b].Ins {
			i := &f.Blocks[b].Ins[n]
			if i.Op != api.InsGet && parts.Makes(i) {
				made[i.Dst] = true
			}
		}
	}
	return virtuals{made: made, size: f.Size}
}

// next is the next of these.
func (v *virtuals) next() int {
	for v.at < len(v.made) && v.made[v.at] {
		v.at++
	}
	n := v.at
	v.at++
	v.size = max(v.size, v.at)
	return n
}
