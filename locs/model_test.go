package locs_test

import (
	"math/big"
	"slices"
	"testing"

	"theodolite/api"
	"theodolite/expr"
	"theodolite/leb"
	"theodolite/locs"
)

const (
	mostSpans = 4000
	mostPlace = 1 << 24
)

// The chapter's words once more: numbers have no bounds here, and what Cut and Join do is told place by place.

// isRight tells whether spans are a right list, each rule on its own.
func isRight(l []api.Span) bool {
	wrong := false
	for i, s := range l {
		wrong = wrong || s.From < 0
		wrong = wrong || i > 0 && s.From < l[i-1].To
		wrong = wrong || s.To <= s.From
		wrong = wrong || s.To > mostPlace
		wrong = wrong || len(s.At) == 0
		wrong = wrong || !expr.Right(s.At)
	}
	return len(l) <= mostSpans && !wrong
}

// own is the bytes of a right list.
func own(l []api.Span) string {
	b := leb.PutU(nil, uint64(len(l)))
	end := 0
	for _, s := range l {
		b = append(b, leb.PutU(nil, uint64(s.From-end))...)
		b = append(b, leb.PutU(nil, uint64(s.To-s.From))...)
		b = append(b, steps(s.At)...)
		end = s.To
	}
	return string(b)
}

// steps is the bytes of a right location.
func steps(l []api.Loc) string {
	b, _ := expr.Put(nil, l)
	return string(b)
}

// said is the right list whose bytes stand at the beginning of b, and how many they are; false, if there is none.
func said(b []byte) (l []api.Span, size int, is bool) {
	many, size, e := leb.U(b, 0)
	if e != api.OK || many > mostSpans {
		return nil, 0, false
	}
	end := new(big.Int)
	for range many {
		gap, next, e := leb.U(b, size)
		if e != api.OK {
			return nil, 0, false
		}
		long, next, e := leb.U(b, next)
		if e != api.OK {
			return nil, 0, false
		}
		at, next, e := expr.Get(b, next)
		if e != api.OK {
			return nil, 0, false
		}
		from := new(big.Int).Add(end, new(big.Int).SetUint64(gap))
		end = new(big.Int).Add(from, new(big.Int).SetUint64(long))
		if end.Cmp(big.NewInt(mostPlace)) > 0 {
			return nil, 0, false
		}
		l, size = append(l, span(int(from.Int64()), int(end.Int64()), at...)), next
	}
	if !isRight(l) {
		return nil, 0, false
	}
	return l, size, true
}

// where is the steps of each place below most at which a variable is, of a right list.
func where(l []api.Span, most int) [][]api.Loc {
	all := make([][]api.Loc, most)
	for _, s := range l {
		for pc := max(s.From, 0); pc < min(s.To, most); pc++ {
			all[pc] = s.At
		}
	}
	return all
}

// runs is spans of the places below most for which fits holds, neighbours in one.
func runs(most int, at []api.Loc, fits func(pc int) bool) []api.Span {
	var l []api.Span
	for pc := range most {
		switch {
		case fits(pc) && pc > 0 && fits(pc-1):
			l[len(l)-1].To++
		case fits(pc):
			l = append(l, span(pc, pc+1, at...))
		}
	}
	return l
}

// left is what Cut leaves of spans of places from 0 on, and below most.
func left(l []api.Span, from, to, most int) []api.Span {
	if from >= to {
		return l
	}
	var all []api.Span
	for _, s := range l {
		has := func(pc int) bool { return s.From <= pc && pc < s.To }
		below := runs(most, s.At, func(pc int) bool { return has(pc) && pc < from })
		above := runs(most, s.At, func(pc int) bool { return has(pc) && pc >= to })
		all = slices.Concat(all, below, above)
	}
	return all
}

// whole is the only right list that says of each place below most what a right list l says, in which no neighbours could be one.
func whole(l []api.Span, most int) []api.Span {
	var all []api.Span
	for pc, at := range where(l, most) {
		last := len(all) - 1
		switch {
		case len(at) == 0:
		case last >= 0 && all[last].To == pc && slices.Equal(all[last].At, at):
			all[last].To++
		default:
			all = append(all, span(pc, pc+1, at...))
		}
	}
	return all
}

// What is asked of the calls.

// isList: the spans are right, have just these bytes, and come out of them, whatever stands ahead and behind.
func isList(t *testing.T, l []api.Span, want string) {
	t.Helper()
	if !locs.Right(l) {
		t.Errorf("%v is not right", few(l))
	}
	for _, ahead := range []string{"", "\x00", "\xff\x80", "\x01\x02"} {
		if b, e := locs.Put([]byte(ahead), l); string(b) != ahead+want || e != api.OK {
			t.Errorf("Put(%x, %v): %x, error %d, not %x", ahead, few(l), some(b), e, some(ahead+want))
		}
		for _, behind := range []string{"", "\x00", "\x01", "\x7f", "\x80", "\xff"} {
			isGot(t, ahead+want+behind, len(ahead), l, len(ahead+want))
		}
	}
}

func isWrong(t *testing.T, l []api.Span) {
	t.Helper()
	if locs.Right(l) {
		t.Errorf("%v is right", few(l))
	}
	for _, ahead := range []string{"", "\x07\x08"} {
		if b, e := locs.Put([]byte(ahead), l); len(b) != 0 || e != api.ErrArg {
			t.Errorf("Put(%x, %v): %x, error %d, not error %d", ahead, few(l), some(b), e, api.ErrArg)
		}
	}
}

// isRightAsTheWordsSay: right, and put, or not, as the model has it.
func isRightAsTheWordsSay(t *testing.T, l []api.Span) {
	t.Helper()
	if isRight(l) {
		isList(t, l, own(l))
	} else {
		isWrong(t, l)
	}
}

func isGot(t *testing.T, b string, at int, want []api.Span, behind int) {
	t.Helper()
	if l, next, e := locs.Get([]byte(b), at); !same(l, want) || next != behind || e != api.OK {
		t.Errorf("Get(%x, %d): %v, %d, error %d, not %v, %d", some(b), at, few(l), next, e, few(want), behind)
	}
}

func isNotGot(t *testing.T, b string, at int, want api.Errno) {
	t.Helper()
	if l, next, e := locs.Get([]byte(b), at); len(l) != 0 || next != 0 || e != want {
		t.Errorf("Get(%x, %d): %v, %d, error %d, not error %d", some(b), at, few(l), next, e, want)
	}
}

// isGotAsTheWordsSay: at each place of b, and around it, as the model has it; what is got is right, and is put as it stood there.
func isGotAsTheWordsSay(t *testing.T, b string) {
	t.Helper()
	for at := -1; at <= len(b)+1; at++ {
		if at < 0 || at > len(b) {
			isNotGot(t, b, at, api.ErrArg)
			continue
		}
		l, size, is := said([]byte(b[at:]))
		if !is {
			isNotGot(t, b, at, api.ErrForm)
			continue
		}
		isGot(t, b, at, l, at+size)
		if again, e := locs.Put(nil, l); string(again) != b[at:at+size] || e != api.OK || !locs.Right(l) {
			t.Errorf("Get(%x, %d): %v, which is put as %x, error %d", b, at, l, again, e)
		}
	}
}

func isAt(t *testing.T, l []api.Span, pc int, want ...api.Loc) {
	t.Helper()
	if at := locs.At(l, pc); !slices.Equal(at, want) {
		t.Errorf("At(%v, %d): %v, not %v", few(l), pc, at, want)
	}
}

func isCut(t *testing.T, l []api.Span, from, to int, want ...api.Span) {
	t.Helper()
	if c := locs.Cut(l, from, to); !same(c, want) {
		t.Errorf("Cut(%v, %d, %d): %v, not %v", few(l), from, to, few(c), few(want))
	}
}

func isJoined(t *testing.T, l []api.Span, want ...api.Span) {
	t.Helper()
	if j := locs.Join(l); !same(j, want) {
		t.Errorf("Join(%v): %v, not %v", few(l), few(j), few(want))
	}
}

func same(a, b []api.Span) bool {
	return slices.EqualFunc(a, b, func(x, y api.Span) bool {
		return x.From == y.From && x.To == y.To && slices.Equal(x.At, y.At)
	})
}

func few(l []api.Span) []api.Span { return l[:min(len(l), 20)] }

func some[T string | []byte](b T) T { return b[:min(len(b), 100)] }

// Spans, and what they say.

func num(n int64) api.Loc  { return api.Loc{Kind: api.LocNum, N: n} }
func reg(n int64) api.Loc  { return api.Loc{Kind: api.LocReg, N: n} }
func base(n int64) api.Loc { return api.Loc{Kind: api.LocBase, N: n} }
func word() api.Loc        { return api.Loc{Kind: api.LocWord} }
func add() api.Loc         { return api.Loc{Kind: api.LocAdd} }
func neg() api.Loc         { return api.Loc{Kind: api.LocNeg} }

func row(l ...api.Loc) []api.Loc { return l }

// span says steps of some places; they are its own.
func span(from, to int, at ...api.Loc) api.Span {
	return api.Span{From: from, To: to, At: slices.Clone(at)}
}

func list(l ...api.Span) []api.Span { return l }

// rowOf is so many spans of one place each, and one place between each two of them.
func rowOf(many int) []api.Span {
	var l []api.Span
	for i := range many {
		l = append(l, span(2*i, 2*i+1, reg(int64(i%16))))
	}
	return l
}

func clone(l []api.Span) []api.Span {
	var all []api.Span
	for _, s := range l {
		all = append(all, span(s.From, s.To, s.At...))
	}
	return all
}

// What looks thrown, and is the same each time.

// dice answers numbers below n.
func dice(seed uint64) func(n int) int {
	return func(n int) int {
		seed = seed*6364136223846793005 + 1442695040888963407
		return int(seed >> 33 % uint64(n))
	}
}

// thrownSteps is one of few right locations that are no nothing: some of them begin like others.
func thrownSteps(next func(n int) int) []api.Loc {
	all := [][]api.Loc{row(reg(1)), row(reg(2)), row(num(1)), row(num(300)), row(base(1)), row(base(-3), word()), row(reg(1), neg()), row(reg(1), neg(), neg()), row(reg(1), reg(2), add())}
	return all[next(len(all))]
}

// thrown is a right list of so many spans at most, whose gaps and spans are below most.
func thrown(next func(n int) int, size, most int) []api.Span {
	var l []api.Span
	end := 0
	for range size {
		from := end
		if next(2) > 0 {
			from += next(most)
		}
		end = from + 1 + next(most)
		l = append(l, span(from, end, thrownSteps(next)...))
	}
	for !isRight(l) {
		l = l[:len(l)-1]
	}
	return l
}

// overwrite fills a list, and the room behind its end.
func overwrite[T any](l []T, x T) {
	l = l[:cap(l)]
	for i := range l {
		l[i] = x
	}
}

// spoil overwrites the steps of all spans, and the spans.
func spoil(l []api.Span) {
	for _, s := range l {
		overwrite(s.At, num(99))
	}
	overwrite(l, span(98, 99, num(99)))
}

// The model itself is held against the chapter's examples.
func TestTheModelSaysWhatTheChapterSays(t *testing.T) {
	l, b := chapters()
	if !isRight(l) || own(l) != b {
		t.Errorf("%v: right: %v, bytes %x", l, isRight(l), own(l))
	}
	if got, size, is := said([]byte(b + "\xff")); !same(got, l) || size != len(b) || !is {
		t.Errorf("%x: %v, %d, %v", b, got, size, is)
	}
	if at := where(l, 12); !slices.Equal(at[4], row(reg(2))) || len(at[9]) != 0 {
		t.Errorf("at 4 and 9: %v, %v", at[4], at[9])
	}
	if c := left(l, 4, 6, 12); !same(c, list(span(3, 4, reg(2)), span(6, 9, num(7)))) {
		t.Errorf("left: %v", c)
	}
	if j := whole(list(span(3, 5, reg(2)), span(5, 9, reg(2))), 12); !same(j, list(span(3, 9, reg(2)))) {
		t.Errorf("whole: %v", j)
	}
}
