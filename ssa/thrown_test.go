package ssa_test

import (
	"strings"
	"testing"

	"theodolite/api"
)

func TestThrown(t *testing.T) {
	next := dice(17)
	ends := map[byte]int{}
	var phis, of, many, called int
	for range 8000 {
		u := made(next, 1+next(10))
		if next(3) == 0 {
			filledUp(&u, next(9)-4)
		}
		var in []int64
		for range next(30) {
			in = append(in, int64(next(5)-1))
		}
		r := run{60, in}
		got := isRight(t, u, r, run{next(9), in}, run{60, nil})
		n := phisOfUnit(got)
		if phis += n; n > 0 {
			of++
		}
		if n > 4 {
			many++
		}
		s := traceOf(got, r)
		ends[s[len(s)-1]]++
		if strings.Contains(s, "B") {
			called++
		}
	}
	for _, end := range "HDXIF" {
		if ends[byte(end)] < 100 {
			t.Errorf("%v ended so", ends)
		}
	}
	if phis < 8000 || of < 2500 || many < 600 || called < 300 {
		t.Errorf("%d Phis, of %d units, more than 4 of %d; %d called", phis, of, many, called)
	}
}

// filledUp puts a number into all that says nothing.
func filledUp(u *api.Unit, n int) {
	for _, f := range u.Funcs {
		for b := range f.Blocks {
			for i := range f.Blocks[b].Ins {
				fill(&f.Blocks[b].Ins[i], n)
			}
			fillEnd(&f.Blocks[b].Term, n)
		}
	}
}

// phisOfUnit is how many there are.
func phisOfUnit(u api.Unit) (n int) {
	for _, f := range u.Funcs {
		for _, b := range f.Blocks {
			for _, i := range b.Ins {
				if i.Op == api.InsPhi {
					n++
				}
			}
		}
	}
	return n
}

// Units of more blocks, and so with ways that cross.
func TestThrownOfMany(t *testing.T) {
	next := dice(18)
	phis := 0
	for range 60 {
		u := made(next, 20+next(60))
		var in []int64
		for range 60 {
			in = append(in, int64(next(4)-1))
		}
		phis += phisOfUnit(isRight(t, u, run{100, in}, run{100, in[30:]}, run{5, in}))
	}
	if phis < 700 {
		t.Errorf("%d Phis", phis)
	}
}

// All functions of up to four blocks, by which of them set a scalar: where it is sure to be set it is looked at, ahead of the Set and behind it, and each end that forks asks for an input.
func TestAllOfFew(t *testing.T) {
	runs := []run{{9, []int64{1, 0, 1, 1, 0, 0}}, {8, []int64{0, 1, 1, 0, 1, 1}}}
	count := 0
	for n := 1; n <= 4; n++ {
		for ends := range endsOf(n) {
			for sets := range 1 << n {
				isRight(t, withSets(ends, sets), runs...)
				count++
			}
		}
	}
	if count < 19000 {
		t.Errorf("%d units", count)
	}
}

// endsOf goes through all ends of so many blocks of which a way leads to each, and to the first one none. Of four, a fork's To is lower than its Else.
func endsOf(n int) func(yield func(l []api.Term) bool) {
	all := []api.Term{ret(-1)}
	for to := 1; to < n; to++ {
		all = append(all, jump(to))
		for other := 1; other < n; other++ {
			if n < 4 || to < other {
				all = append(all, fork(0, to, other))
			}
		}
	}
	count := 1
	for range n {
		count *= len(all)
	}
	return func(yield func(l []api.Term) bool) {
		for code := range count {
			l := make([]api.Term, n)
			var blocks []api.Block
			for b, rest := 0, code; b < n; b, rest = b+1, rest/len(all) {
				l[b] = all[rest%len(all)]
				blocks = append(blocks, block(l[b]))
			}
			if len(reachedOf(blocks)) == n && !yield(l) {
				return
			}
		}
	}
}

// withSets is a unit with these ends, whose blocks set the scalar where sets has a bit of theirs.
func withSets(ends []api.Term, sets int) api.Unit {
	f := &api.Func{}
	for b, e := range ends {
		f.Blocks = append(f.Blocks, block(e))
		if sets>>b&1 == 1 {
			f.Blocks[b].Ins = []api.Ins{set(vInt, 0)}
		}
	}
	bare := metWithout(f, func(b int) bool { return hasSet(f, b, vInt) })
	var l []part
	for b, e := range ends {
		p := part{end: e}
		if !bare[b] {
			p.do = append(p.do, vInt)
		}
		if hasSet(f, b, vInt) {
			p.do = append(p.do, vInt+10, vInt)
		}
		l = append(l, p)
	}
	return unitOf(l)
}
