package sound_test

import (
	"testing"

	"theodolite/api"
)

// isRight: Check answers of a unit what the model does, and a sound one says the same, whatever the virtuals are that were not made (P16.2).
func isRight(t *testing.T, u api.Unit) answer {
	t.Helper()
	want := rightAnswer(u)
	if got := asked(u); got != want {
		t.Fatalf("%s: %v, want %v", tell(u), got, want)
	}
	if want.e == api.OK {
		isOneTrace(t, u)
	}
	return want
}

func isOneTrace(t *testing.T, u api.Unit) {
	t.Helper()
	want := traceOf(u, 0, 50, 3, -1, 0)
	for _, unmade := range []int64{1, -7} {
		if got := traceOf(u, unmade, 50, 3, -1, 0); got != want {
			t.Fatalf("%s: %s, and with %d: %s", tell(u), want, unmade, got)
		}
	}
}

func TestThrown(t *testing.T) {
	next := dice(16)
	for range 5000 {
		u := made(next, 1+next(9))
		if got := isRight(t, u); got != (answer{}) {
			t.Fatalf("%s: %v", tell(u), got)
		}
	}
}

// Units that were sound, and in which something was turned.
func TestTurned(t *testing.T) {
	next := dice(17)
	var may, mayNot, wrong, behind int
	for range 25000 {
		u := made(next, 1+next(7))
		for range 1 + next(3) {
			turned(next, &u)
		}
		if !isTold(u) {
			continue
		}
		switch x := isRight(t, u); {
		case x.e == api.OK:
			may++
		case x.e == api.ErrArg:
			mayNot++
		default:
			wrong++
			if x.f > 0 && x.b > 0 && x.i > 0 {
				behind++
			}
		}
	}
	if may < 2000 || mayNot < 2000 || wrong < 2000 || behind < 100 {
		t.Errorf("%d sound, %d that may not be, %d wrong, of which %d behind", may, mayNot, wrong, behind)
	}
}

// All functions of two blocks with up to two instructions each of some few.
func TestAllOfTwo(t *testing.T) {
	ends := []api.Term{ret(-1), ret(0), jump(0), jump(1), fork(0, 0, 1), fork(0, 1, 0), fork(1, 1, 1)}
	some := []api.Ins{num(0, 1), again(1, 0), put(1), mark(0), bind(vInt, 0)}
	lists := allLists(some, 2)
	withPhi := append(lists, allLists(append(some, phi(1, 0), phi(1, 1), phi(0, 0, 1), phi(1, 1, 0)), 1)...)
	for _, b := range [][]api.Ins{{phi(0, 1), phi(1, 0)}, {phi(0, 0, 1), phi(1, 1, 0)}, {phi(1, 0), put(1)}, {phi(1, 0, 1), put(1)}, {put(1), phi(1, 0, 1)}} {
		withPhi = append(withPhi, b)
	}
	for _, x := range ends {
		for _, y := range ends {
			for _, one := range lists {
				for _, other := range withPhi {
					u := inMain(block(x, one...), block(y, other...))
					if got, want := asked(u), rightAnswer(u); got != want {
						t.Fatalf("%s: %v, want %v", tell(u), got, want)
					}
				}
			}
		}
	}
}

// allLists are all of up to so many instructions.
func allLists(some []api.Ins, most int) [][]api.Ins {
	l := [][]api.Ins{nil}
	from := 0
	for range most {
		to := len(l)
		for _, x := range l[from:to] {
			for _, i := range some {
				l = append(l, append(append([]api.Ins(nil), x...), i))
			}
		}
		from = to
	}
	return l
}

// All functions of three blocks with at most one instruction each.
func TestAllOfThree(t *testing.T) {
	ends := []api.Term{ret(-1), ret(0)}
	for to := range 3 {
		ends = append(ends, jump(to))
		for other := range 3 {
			ends = append(ends, fork(0, to, other))
		}
	}
	some := allLists([]api.Ins{num(0, 1), put(0)}, 1)
	for n := range len(ends) * len(ends) * len(ends) {
		for k := range len(some) * len(some) * len(some) {
			u := inMain(
				block(ends[n%len(ends)], some[k%len(some)]...),
				block(ends[n/len(ends)%len(ends)], some[k/len(some)%len(some)]...),
				block(ends[n/len(ends)/len(ends)], some[k/len(some)/len(some)]...),
			)
			if got, want := asked(u), rightAnswer(u); got != want {
				t.Fatalf("%s: %v, want %v", tell(u), got, want)
			}
		}
	}
}
