package fold_test

import (
	"strings"
	"testing"

	"theodolite/api"
	"theodolite/fold"
)

func TestThrown(t *testing.T) {
	next := dice(17)
	ends := map[byte]int{}
	var reckoned, forks, gone, phis, called int
	for range 8000 {
		u := made(next, 1+next(10))
		if next(3) == 0 {
			filledUp(&u, next(9)-4)
		}
		var in []int64
		for range next(30) {
			in = append(in, int64(next(5)-1))
		}
		r := run{60, in}
		got := isRight(t, u, r, run{next(9), in}, run{60, nil})
		was, is := countOf(u), countOf(got)
		reckoned += is.consts - was.consts
		forks += was.forks - is.forks
		gone += was.blocks - is.blocks
		phis += is.phis
		s := traceOf(got, r)
		ends[s[len(s)-1]]++
		if strings.Contains(s, "B") {
			called++
		}
	}
	for _, end := range "HDXIF" {
		if ends[byte(end)] < 100 {
			t.Errorf("%v ended so", ends)
		}
	}
	if reckoned < 6000 || forks < 5000 || gone < 2000 || phis < 8000 || called < 100 {
		t.Errorf("%d Consts more, %d forks and %d blocks gone, %d Phis are left, %d called", reckoned, forks, gone, phis, called)
	}
}

// Units of more blocks, and so with ways that cross.
func TestThrownOfMany(t *testing.T) {
	next := dice(18)
	var blocks, gone int
	for range 150 {
		u := made(next, 20+next(60))
		var in []int64
		for range 60 {
			in = append(in, int64(next(4)-1))
		}
		got := isRight(t, u, run{100, in}, run{100, in[30:]}, run{5, in})
		blocks += countOf(got).blocks
		gone += countOf(u).blocks - countOf(got).blocks
	}
	if blocks < 1000 || gone < 300 {
		t.Errorf("%d blocks are left, %d gone", blocks, gone)
	}
}

// What is left has nothing in it that can be reckoned ahead.
func TestTwice(t *testing.T) {
	next := dice(19)
	for range 1000 {
		u := made(next, 1+next(8))
		got := fold.Unit(u)
		if again := fold.Unit(got); !same(again, got) {
			t.Fatalf("Unit(%s): %s, and of that: %s", tell(u), tell(got), tell(again))
		}
	}
}

// fill puts a number into all parts of an instruction that say nothing.
func fill(i *api.Ins, n int) {
	sees := len(looks(i))
	if i.Op == api.InsCall {
		i.A, i.B, i.Var = n, n, n
		return
	}
	if !makes(i) {
		i.Dst = n
	}
	if i.Op != api.InsPhi {
		i.Args = []int{n, n}
	}
	if i.Op == api.InsPhi || sees < 2 {
		i.B = n
	}
	if i.Op == api.InsPhi || sees < 1 && i.Op != api.InsBind {
		i.A = n
	}
	switch i.Op {
	case api.InsLoad, api.InsStore, api.InsField, api.InsSetF, api.InsZero, api.InsBind:
	default:
		i.Var = n
	}
	switch i.Op {
	case api.InsConst, api.InsArg, api.InsField, api.InsSetF, api.InsMark:
	default:
		i.Num = int64(n)
	}
}

func fillEnd(end *api.Term, n int) {
	switch end.Kind {
	case api.TermJump:
		end.A, end.Else = n, n
	case api.TermRet:
		end.To, end.Else = n, n
	}
}

// filledUp puts a number into all that says nothing.
func filledUp(u *api.Unit, n int) {
	for _, f := range u.Funcs {
		for b := range f.Blocks {
			for i := range f.Blocks[b].Ins {
				fill(&f.Blocks[b].Ins[i], n)
			}
			fillEnd(&f.Blocks[b].Term, n)
		}
	}
}
