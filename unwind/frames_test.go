package unwind_test

import (
	"math"
	"slices"
	"testing"

	"theodolite/api"
	"theodolite/unwind"
)

// P8.2: Find

func TestWhichEntryHasAPc(t *testing.T) {
	l := table(entry(3, 5, 1, saved(7, -2)), entry(5, 9, 2), entry(12, 13, 3, saved(6, -2), saved(11, -3)), entry(20, mostPlace, 4))
	for pc, want := range map[int]int{
		math.MinInt: -1, math.MinInt + 3: -1, -1 << 32: -1, -1: -1, 0: -1, 2: -1, // below the first one
		3: 0, 4: 0, // from From on, and not with To
		5: 1, 6: 1, 8: 1,
		9: -1, 10: -1, 11: -1, // between two
		12: 2, 13: -1, 19: -1,
		20: 3, mostPlace - 1: 3,
		mostPlace: -1, mostPlace + 1: -1, 1 << 32: -1, 1<<32 + 3: -1, math.MaxInt - 1: -1, math.MaxInt: -1, // behind the last one
	} {
		isFound(t, l, pc, want)
	}
}

func TestFindWhereNothingIs(t *testing.T) {
	for _, pc := range []int{math.MinInt, -1, 0, 1, 5, math.MaxInt} {
		isFound(t, nil, pc, -1)
		isFound(t, []api.Unwind{}, pc, -1)
		isFound(t, table(entry(5, 5, 1), entry(6, 5, 1), entry(math.MaxInt, math.MinInt, 1), entry(0, 0, 1), entry(1, 1, 1)), pc, -1) // none has a place
	}
}

func TestFindOfTablesThatAreNotRight(t *testing.T) {
	l := table(entry(3, 9, 1), entry(5, 12, 2, saved(7, -2)), entry(0, 20, 3), entry(4, 5, 4))
	for pc, want := range map[int]int{-1: -1, 0: 2, 2: 2, 3: 0, 4: 0, 5: 0, 8: 0, 9: 1, 11: 1, 12: 2, 19: 2, 20: -1} {
		isFound(t, l, pc, want) // the first one that has it
	}
	isFound(t, table(entry(3, 5, -1, saved(99, 99), saved(-1, math.MinInt64)), entry(3, 5, 1)), 4, 0) // what it says is not asked
	isFound(t, table(entry(-5, -3, 1), entry(-3, 0, 2)), -3, 1)
	for _, pc := range []int{math.MinInt, -1, 0, math.MaxInt - 1} {
		isFound(t, table(entry(math.MinInt, math.MaxInt, 1)), pc, 0)
	}
	isFound(t, table(entry(math.MinInt, math.MaxInt, 1)), math.MaxInt, -1)
	isFound(t, append(tableOf(mostEntries), entry(1<<30, 1<<31, 9)), 1<<30, mostEntries) // behind more entries than may be
	isFound(t, append(tableOf(mostEntries), entry(1<<30, 1<<31, 9)), 2, 1)
}

func TestFindOfTablesThatLookThrown(t *testing.T) {
	next := dice(31)
	for range 2000 {
		l := thrown(next, next(9), 10)
		if next(2) == 0 && len(l) > 1 {
			l[next(len(l))].To += next(20) - 10
		}
		for pc := -2; pc < 100; pc++ {
			isFoundAsTheWordsSay(t, l, pc)
		}
	}
}

// P8.2: Frame

func TestWhereTheBaseIs(t *testing.T) {
	l := table(entry(3, 5, 0, saved(7, -2)), entry(5, 9, 3), entry(12, mostPlace, mostUp))
	for pc, up := range map[int]int64{3: 0, 4: 0, 5: 3, 8: 3, 12: mostUp, mostPlace - 1: mostUp} {
		for _, base := range []int64{0, 1, 10, -1, -4, 1 << 40, math.MaxInt64 - mostUp, math.MinInt64} {
			isFrame(t, l, pc, with(wide(), 15, base), base+up)
		}
	}
	for _, pc := range []int{math.MinInt, -1, 0, 2, 9, 11, mostPlace, mostPlace + 1, math.MaxInt} {
		isNoFrame(t, l, pc, wide())
		isNoFrame(t, nil, pc, wide())
		isNoFrame(t, l, pc, api.View{})
	}
}

func TestBasesThatGoRound(t *testing.T) {
	const least, most = math.MinInt64, math.MaxInt64
	for _, c := range []struct{ up, in, want int64 }{
		{1, most, least}, {3, most, least + 2}, {mostUp, most - mostUp + 1, least}, {mostUp, most, least + mostUp - 1},
		{-1, least, most}, {most, most, -2}, {least, least, 0}, {most, 1, least}, {least, -1, most}, {most, least, -1}, // of tables that are not right
	} {
		v := with(wide(), 15, c.in)
		isFrame(t, table(entry(3, 5, c.up)), 4, v, c.want)
		isUpAsTheWordsSay(t, table(entry(3, 5, c.up)), 4, v)
	}
}

func TestFrameOfTablesThatAreNotRight(t *testing.T) {
	isFrame(t, table(entry(3, 9, 1), entry(5, 12, 2)), 6, wide(), 11) // the first one that has it
	isFrame(t, table(entry(3, 9, 1), entry(5, 12, 2)), 9, wide(), 12)
	isFrame(t, table(entry(3, 5, -7, saved(99, 99))), 4, wide(), 3)
	isFrame(t, table(entry(3, 5, mostUp+1)), 4, wide(), mostUp+11)
	isFrame(t, table(entry(math.MinInt, 0, 4)), math.MinInt, wide(), 14)
	isFrame(t, append(tableOf(mostEntries), entry(1<<30, math.MaxInt, 9)), math.MaxInt-1, wide(), 19)
	isNoFrame(t, table(entry(5, 5, 1), entry(9, 3, 1)), 5, wide())
}

func TestViewsInWhichRegister15IsNotKnown(t *testing.T) {
	l, _ := chapters()
	v := wide()
	v.Known[15] = false
	for _, n := range []int64{0, 5, -1, math.MaxInt64, math.MinInt64} { // whatever is in it
		v.Regs[15] = n
		isNoFrame(t, l, 12, v)
		isNotUp(t, l, 12, v, api.ErrNone)
	}
	alone := api.View{Known: make([]bool, 16)}
	isNoFrame(t, l, 12, alone)
	alone.Known[15] = true
	isFrame(t, l, 12, alone, 3) // it is known, and is 0 as the list ends ahead of it
}

func TestViewsWhoseListsAreShortOrLong(t *testing.T) {
	l := table(entry(3, 5, 6, saved(7, -2), saved(9, -3)))
	regs := append(wide().Regs, 116, 117, 118, 119)
	for known := range 20 {
		for many := range 20 {
			v := api.View{Known: slices.Repeat([]bool{true}, known), Regs: regs[:many], Base: 5, Words: wide().Words}
			in := int64(0)
			if many > 15 {
				in = 10
			}
			if known < 16 {
				isNoFrame(t, l, 4, v)
				isNotUp(t, l, 4, v, api.ErrNone)
				continue
			}
			isFrame(t, l, 4, v, in+6)
			want := with(with(caller(in+6, v.Words), 7, 1000+in+4), 9, 1000+in+3)
			for _, k := range []int{6, 8, 10, 11} {
				n := int64(0)
				if k < many {
					n = 100 + int64(k)
				}
				want = with(want, k, n)
			}
			isUp(t, l, 4, v, int(1000+in+5), want)
		}
	}
}

// The room behind a list's end is behind it, whatever stands there.
func TestTheRoomBehindTheEndsOfAViewsLists(t *testing.T) {
	l := table(entry(3, 5, 1))
	v := wide()
	isNoFrame(t, l, 4, api.View{Known: v.Known[:15], Regs: v.Regs, Words: v.Words})
	isFrame(t, l, 4, api.View{Known: v.Known, Regs: v.Regs[:15], Words: v.Words}, 1)
	short := api.View{Known: v.Known, Regs: v.Regs, Words: v.Words[:10]}
	isFrame(t, l, 4, short, 11)
	isNotUp(t, l, 4, short, api.ErrNone)
	want := caller(1, v.Words)
	want.Known[6], want.Known[7], want.Known[8], want.Known[9], want.Known[10], want.Known[11] = true, true, true, true, true, true
	want.Regs[6], want.Regs[7] = 106, 107
	isUp(t, l, 4, api.View{Known: v.Known, Regs: v.Regs[:8], Words: v.Words}, 1000, want)
}

// P8.3

func TestUpWithNoneSaved(t *testing.T) {
	v := wide()
	want := caller(13, v.Words)
	for k := 6; k <= 11; k++ {
		want = with(want, k, 100+int64(k))
	}
	isUp(t, table(entry(3, 5, 3)), 4, v, 1012, want)
	isUp(t, table(api.Unwind{From: 3, To: 5, Up: 3, Regs: []api.Saved{}}), 4, v, 1012, want)
	for _, k := range []int{6, 7, 8, 9, 10, 11} {
		v.Known[k], want.Known[k], want.Regs[k] = false, false, 0 // whatever is in it
		isUp(t, table(entry(3, 5, 3)), 4, v, 1012, want)
	}
}

func TestUpWithAllSaved(t *testing.T) {
	all := table(entry(3, 5, 20, saved(6, -2), saved(7, -3), saved(8, -30), saved(9, -29), saved(10, -4), saved(11, -2)))
	v := wide()
	want := caller(30, v.Words)
	for k, n := range map[int]int64{6: 1028, 7: 1027, 8: 1000, 9: 1001, 10: 1026, 11: 1028} {
		want = with(want, k, n)
	}
	isUp(t, all, 4, v, 1029, want)
	for k := range 15 { // what the frame itself knows is not asked
		v.Known[k] = false
		isUp(t, all, 4, v, 1029, want)
	}
}

func TestEachKeptRegister(t *testing.T) {
	for k := 6; k <= 11; k++ {
		for _, known := range []bool{true, false} {
			v := wide()
			v.Known = make([]bool, 16)
			v.Known[15], v.Known[k] = true, known
			isUp(t, table(entry(3, 5, 3, saved(k, -4))), 4, v, 1012, with(caller(13, v.Words), k, 1009))
			want := caller(13, v.Words)
			if known {
				want = with(want, k, 100+int64(k))
			}
			isUp(t, table(entry(3, 5, 3)), 4, v, 1012, want)
		}
	}
}

// Each choice of those that are saved, with each choice of those that are known.
func TestEachChoiceOfKeptRegisters(t *testing.T) {
	for choice := range 1 << 12 {
		v := wide()
		var regs []api.Saved
		for i := range 6 {
			if choice>>i&1 == 1 {
				regs = append(regs, saved(6+i, -int64(2+i)))
			}
			v.Known[6+i] = choice>>(6+i)&1 == 1
		}
		if e := isUpAsTheWordsSay(t, table(entry(3, 5, 3, regs...)), 4, v); e != api.OK {
			t.Errorf("%v: error %d", regs, e)
		}
	}
}

func TestWhatUpDoesNotHangOn(t *testing.T) {
	l := table(entry(3, 5, 3, saved(7, -4), saved(8, -2)))
	v := wide()
	back, w, e := unwind.Up(l, 4, v)
	if back != 1012 || e != api.OK {
		t.Errorf("Up: %d, error %d", back, e)
	}
	for _, k := range []int{0, 1, 2, 3, 4, 5, 7, 8, 12, 13, 14} {
		for _, n := range []int64{0, -1, 5000, math.MaxInt64, math.MinInt64} {
			other := with(v, k, n)
			isUp(t, l, 4, other, back, w)
			other.Known[k] = false
			isUp(t, l, 4, other, back, w)
		}
	}
	for _, base := range []int64{0, 1, -1, 40, math.MaxInt64, math.MinInt64} {
		other := cloneView(v)
		other.Base = base
		isUp(t, l, 4, other, back, w)
	}
	longer := cloneView(v)
	longer.Known, longer.Regs = append(longer.Known, true, true, true), append(longer.Regs, 1, 2, 3)
	isUp(t, l, 4, longer, back, w)
	isUp(t, append(l, entry(4, 9, -1), entry(0, 0, 0)), 4, v, back, w) // other entries do not count
	isUp(t, append(table(entry(-9, 4, -1)), l...), 4, v, back, w)
}

// wrongEntries are not right alone, and have 4.
func wrongEntries() []api.Unwind {
	return table(
		entry(-1, 5, 3), entry(math.MinInt, 5, 3), entry(3, mostPlace+1, 3), entry(3, math.MaxInt, 3), entry(3, 5, -1), entry(3, 5, mostUp+1), entry(3, 5, math.MinInt64), entry(3, 5, math.MaxInt64),
		entry(3, 5, 3, saved(5, -2)), entry(3, 5, 3, saved(12, -2)), entry(3, 5, 3, saved(15, -2)), entry(3, 5, 3, saved(16, -2)), entry(3, 5, 3, saved(-1, -2)), entry(3, 5, 3, saved(math.MaxInt, -2)),
		entry(3, 5, 3, saved(7, -2), saved(7, -3)), entry(3, 5, 3, saved(8, -2), saved(7, -3)),
		entry(3, 5, 3, saved(7, -1)), entry(3, 5, 3, saved(7, 0)), entry(3, 5, 3, saved(7, 1)), entry(3, 5, 3, saved(7, -mostBelow-1)), entry(3, 5, 3, saved(7, math.MinInt64)), entry(3, 5, 3, saved(7, math.MaxInt64)),
		entry(3, 5, 3, saved(6, -2), saved(7, -3), saved(8, -4), saved(9, -5), saved(10, -6), saved(11, -7), saved(11, -8)),
	)
}

func TestEntriesThatAreNoTableAlone(t *testing.T) {
	for _, u := range wrongEntries() {
		isNotUp(t, table(u), 4, wide(), api.ErrArg)
		isNotUp(t, table(entry(0, 3, 1), u), 4, wide(), api.ErrArg)
		isNotUp(t, table(u, entry(3, 5, 3)), 4, wide(), api.ErrArg) // another one that has pc is not asked
		none := wide()
		none.Words = nil
		isNotUp(t, table(u), 4, none, api.ErrArg) // ahead of the words
		isNotUp(t, table(u), 4, with(wide(), 15, math.MinInt64), api.ErrArg)
		none.Known[15] = false
		isNotUp(t, table(u), 4, none, api.ErrNone) // but behind what Frame says
		isNotUp(t, table(u), 4, api.View{}, api.ErrNone)
		isNotUp(t, table(u), math.MaxInt, wide(), api.ErrNone)
		isUp(t, table(entry(3, 5, 3, saved(6, -2), saved(7, -2), saved(8, -2), saved(9, -2), saved(10, -2), saved(11, -2)), u), 4, wide(), 1012, allAre(13, 1011))
	}
	long := entry(3, 5, 3, make([]api.Saved, 1<<16)...)
	isNotUp(t, table(long), 4, wide(), api.ErrArg)
}

// allAre is a caller's view of wide's words, in which each kept register is n.
func allAre(base, n int64) api.View {
	w := caller(base, wide().Words)
	for k := 6; k <= 11; k++ {
		w = with(w, k, n)
	}
	return w
}

func TestEntriesThatAreATableAlone(t *testing.T) {
	six := []api.Saved{saved(6, -2), saved(7, -2), saved(8, -2), saved(9, -2), saved(10, -2), saved(11, -2)}
	for _, ahead := range [][]api.Unwind{nil, table(entry(9, 12, 1)), table(entry(0, 0, 1)), table(entry(12, 3, -1, saved(99, 99))), tableOf(1)} {
		isUp(t, append(ahead, entry(3, 5, 3, six...)), 4, wide(), 1012, allAre(13, 1011))
	}
	many := append(tableOf(mostEntries), entry(mostPlace-1, mostPlace, 3, six...))
	isUp(t, many, mostPlace-1, wide(), 1012, allAre(13, 1011)) // the table is too long, this one alone is none
	isUp(t, table(entry(0, 1, 3, six...)), 0, wide(), 1012, allAre(13, 1011))
	isUp(t, table(entry(0, mostPlace, 3, six...)), mostPlace-1, wide(), 1012, allAre(13, 1011))
}

// gone is a view in which no kept register is known.
func gone(in int64, words []int64) api.View {
	v := api.View{Known: make([]bool, 16), Regs: make([]int64, 16), Words: words}
	return with(v, 15, in)
}

func TestTheWordBelowTheBase(t *testing.T) {
	for size := range int64(6) {
		words := []int64{50, 51, 52, 53, 54}[:size]
		for _, up := range []int64{0, 1, 2, 100, mostUp} {
			l := table(entry(3, 5, up))
			for _, base := range []int64{math.MinInt64 + mostUp, -1 << 32, -2, -1, 0, 1, 2, 3, 4, 5, 6, 7, 1 << 32, 1<<32 + 1, math.MaxInt64} {
				v := gone(base-up, words)
				if base < 1 || base > size {
					isNotUp(t, l, 4, v, api.ErrNone)
				} else {
					isUp(t, l, 4, v, int(49+base), caller(base, words))
				}
			}
			for _, in := range []int64{math.MinInt64, math.MinInt64 + 1, math.MaxInt64, math.MaxInt64 - 1} { // round, or almost
				isNotUp(t, l, 4, gone(in, words), api.ErrNone)
			}
		}
	}
}

func TestWhatTheWayBackMayBe(t *testing.T) {
	l := table(entry(3, 5, 2))
	for _, n := range []int64{0, 1, 2, 300, 1 << 20, mostPlace - 2, mostPlace - 1} {
		words := []int64{9, n, -1}
		isUp(t, l, 4, gone(0, words), int(n), caller(2, words))
	}
	for _, n := range []int64{-1, -2, -mostPlace, -1 << 32, math.MinInt64, math.MinInt64 + 1, mostPlace, mostPlace + 1, 1 << 25, 1 << 31, 1 << 32, 1<<32 + 1, 1 << 62, math.MaxInt64} {
		isNotUp(t, l, 4, gone(0, []int64{9, n, 5}), api.ErrNone)
		isNotUp(t, table(entry(3, 5, 2, saved(7, -2))), 4, gone(0, []int64{9, n, 5}), api.ErrNone)
	}
}

func TestTheWordsOfThoseSaved(t *testing.T) {
	words := wide().Words
	for at := int64(-12); at <= -2; at++ {
		l := table(entry(3, 5, 4, saved(8, at)))
		v := gone(6, words) // the base is 10
		if at < -10 {
			isNotUp(t, l, 4, v, api.ErrNone)
			isNotUp(t, table(entry(3, 5, 4, saved(7, -2), saved(8, at))), 4, v, api.ErrNone)
			isNotUp(t, table(entry(3, 5, 4, saved(8, at), saved(9, -2))), 4, v, api.ErrNone)
			isNotUp(t, l, 4, with(v, 8, 5), api.ErrNone) // what the frame knows is no help
			continue
		}
		isUp(t, l, 4, v, 1009, with(caller(10, words), 8, 1010+at))
		isUp(t, table(entry(3, 5, 4, saved(8, at), saved(11, -10))), 4, v, 1009, with(with(caller(10, words), 8, 1010+at), 11, 1000))
	}
	isNotUp(t, table(entry(3, 5, 4, saved(8, -mostBelow))), 4, gone(6, words), api.ErrNone)
	isNotUp(t, table(entry(3, 5, 1, saved(8, -2))), 4, gone(0, words), api.ErrNone) // the way back is the first word
	for _, n := range []int64{0, -1, mostPlace, math.MinInt64, math.MaxInt64} {     // whatever they are
		isUp(t, table(entry(3, 5, 3, saved(6, -2), saved(11, -3))), 4, gone(0, []int64{n, n, 7}), 7, with(with(caller(3, []int64{n, n, 7}), 6, n), 11, n))
	}
}

func TestAsManyWordsAsAMachineMayHave(t *testing.T) {
	words := make([]int64, api.MaxMemory)
	words[0], words[api.MaxMemory-2], words[api.MaxMemory-1] = 5, 6, 7
	l := table(entry(3, 5, mostUp, saved(6, -mostBelow), saved(7, -2)))
	isUp(t, l, 4, gone(0, words), 7, with(with(caller(mostUp, words), 6, 5), 7, 6))
	isNotUp(t, l, 4, gone(-1, words), api.ErrNone) // there is a way back, and no word for register 6
	isNotUp(t, l, 4, gone(1, words), api.ErrNone)
}

func TestTheLeastAndTheGreatestPc(t *testing.T) {
	l, _ := chapters()
	all := table(entry(math.MinInt, math.MaxInt, 3))
	for _, pc := range []int{math.MinInt, math.MinInt + 1, math.MinInt + 12, -1, math.MaxInt - 1, math.MaxInt, math.MaxInt - 12, 1<<32 + 12} {
		isNoFrame(t, l, pc, chaptersView())
		isNotUp(t, l, pc, chaptersView(), api.ErrNone)
		if pc != math.MaxInt {
			isFrame(t, all, pc, chaptersView(), 8)
			isNotUp(t, all, pc, chaptersView(), api.ErrArg)
		}
	}
	isNoFrame(t, all, math.MaxInt, chaptersView())
	isNotUp(t, all, math.MaxInt, chaptersView(), api.ErrNone)
}

// A stack of frames: each caller's view is asked in its turn.
func TestCallersOfCallers(t *testing.T) {
	l := table(entry(0, 10, 2, saved(7, -2)), entry(10, 20, 1), entry(20, 30, 3, saved(6, -2), saved(8, -3)))
	v := gone(0, []int64{70, 15, 25, 80, 60, 5, 71, 29})
	v.Known[6], v.Regs[6], v.Known[9], v.Regs[9] = true, 1, true, 4
	first := with(with(with(caller(2, v.Words), 6, 1), 7, 70), 9, 4)
	isUp(t, l, 5, v, 15, first)
	second := with(first, 15, 3)
	isUp(t, l, 15, first, 25, second)
	third := with(with(with(second, 6, 60), 8, 80), 15, 6)
	isUp(t, l, 25, second, 5, third)
	isUp(t, l, 5, third, 29, with(with(third, 7, 71), 15, 8))
	isNotUp(t, l, 29, with(with(third, 7, 71), 15, 8), api.ErrNone)
}

// thrownNumber is small, or near one end of what may be.
func thrownNumber(next func(n int) int) int64 {
	ends := []int64{0, -1, 1, mostPlace - 1, mostPlace, math.MaxInt64, math.MinInt64, mostUp}
	if next(8) > 0 {
		return int64(next(30))
	}
	return ends[next(len(ends))] + int64(next(3)) - 1
}

func thrownView(next func(n int) int) api.View {
	v := api.View{Base: thrownNumber(next)}
	known, many := 16, 16
	if next(4) == 0 {
		known, many = next(20), next(20)
	}
	for range known {
		v.Known = append(v.Known, next(4) > 0)
	}
	for range many {
		v.Regs = append(v.Regs, thrownNumber(next))
	}
	for range next(40) {
		v.Words = append(v.Words, thrownNumber(next))
	}
	return v
}

func TestUpOfViewsThatLookThrown(t *testing.T) {
	next := dice(32)
	ends := map[api.Errno]int{}
	for range 40000 {
		l := thrown(next, 1+next(5), 8)
		if next(4) == 0 {
			l = append(table(wrongEntries()[next(len(wrongEntries()))]), l...)
		}
		ends[isUpAsTheWordsSay(t, l, next(12)-1, thrownView(next))]++
	}
	for _, e := range []api.Errno{api.OK, api.ErrNone, api.ErrArg} {
		if ends[e] < 1000 {
			t.Errorf("error %d: %d of 40000 times", e, ends[e])
		}
	}
}
