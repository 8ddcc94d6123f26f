package unwind

import "theodolite/api"

// frame is the entry that has a pc, and the base that it says; false, if no entry has it, or register 15 is not known.
func frame(l []api.Unwind, pc int, v api.View) (u api.Unwind, base int64, is bool) {
	u, is = Find(l, pc)
	if !is || len(v.Known) <= stack || !v.Known[stack] {
		return api.Unwind{}, 0, false
	}
	// A register that is known is 0 where the list of what is in them ends ahead of it.
	if len(v.Regs) > stack {
		base = v.Regs[stack]
	}
	return u, base + u.Up, true
}

// caller is the view of who called, of an entry that is right alone; false, if there is no word for one that was saved.
func caller(u api.Unwind, base int64, v api.View) (w api.View, is bool) {
	w.Known, w.Regs = kept(v.Known), kept(v.Regs)
	for k, known := range w.Known {
		if !known {
			w.Regs[k] = 0
		}
	}
	for _, s := range u.Regs {
		w.Known[s.Reg] = true
		w.Regs[s.Reg], is = word(v.Words, base+s.At)
		if !is {
			return api.View{}, false
		}
	}
	w.Known[stack], w.Regs[stack] = true, base
	w.Words = own(v.Words)
	return w, true
}

// word is the one at a place; false, if there is none.
func word(words []int64, at int64) (n int64, is bool) {
	if at < 0 || at >= int64(len(words)) {
		return 0, false
	}
	return words[at], true
}

// own is a list in new memory.
func own[T any](l []T) []T {
	all := make([]T, len(l))
	copy(all, l)
	return all
}

// kept is what a list says of the kept registers, in a new one of all registers, which says nothing of the others.
func kept[T any](l []T) []T {
	all := make([]T, api.Regs)
	if len(l) > firstKept {
		copy(all[firstKept:lastKept+1], l[firstKept:])
	}
	return all
}
