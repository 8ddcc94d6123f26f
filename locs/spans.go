package locs

import (
	"iter"
	"slices"

	"theodolite/api"
	"theodolite/expr"
	"theodolite/leb"
)

// inOrder goes through spans, each with where the one ahead of it ends; the first one's is 0.
func inOrder(l []api.Span) iter.Seq2[int, api.Span] {
	return func(yield func(int, api.Span) bool) {
		ahead := 0
		for _, s := range l {
			if !yield(ahead, s) {
				return
			}
			ahead = s.To
		}
	}
}

// said goes through so many spans whose bytes stand in b from at on, each with the place behind it, as far as they say some.
func said(b []byte, at, many int) iter.Seq2[api.Span, int] {
	return func(yield func(api.Span, int) bool) {
		ahead := 0
		for range many {
			s, next, is := read(b, at, ahead)
			if !is || !yield(s, next) {
				return
			}
			ahead, at = s.To, next
		}
	}
}

// read is the span whose bytes stand at a place, whether it may be there or not, and the place behind it; false, if there is none. What its bytes say is held against the bound ahead of the sums, which could go round.
func read(b []byte, at, ahead int) (s api.Span, next int, is bool) {
	gap, next, e := leb.U(b, at)
	if e != api.OK || gap > mostPlace {
		return api.Span{}, 0, false
	}
	long, next, e := leb.U(b, next)
	if e != api.OK || long > mostPlace {
		return api.Span{}, 0, false
	}
	steps, next, e := expr.Get(b, next)
	if e != api.OK {
		return api.Span{}, 0, false
	}
	from := ahead + int(gap)
	return api.Span{From: from, To: from + int(long), At: steps}, next, true
}

// outside goes through what is left of spans below from, and at to and above; from is below to.
func outside(l []api.Span, from, to int) iter.Seq[api.Span] {
	return func(yield func(api.Span) bool) {
		for _, s := range l {
			below := api.Span{From: s.From, To: min(s.To, from), At: s.At}
			above := api.Span{From: max(s.From, to), To: s.To, At: s.At}
			if below.From < below.To && !yield(below) {
				return
			}
			if above.From < above.To && !yield(above) {
				return
			}
		}
	}
}

// joined goes through spans, where neighbours that touch and say the same are one.
func joined(l []api.Span) iter.Seq[api.Span] {
	return func(yield func(api.Span) bool) {
		if len(l) == 0 {
			return
		}
		now := l[0]
		for _, s := range l[1:] {
			if s.From == now.To && slices.Equal(s.At, now.At) {
				now.To = s.To
				continue
			}
			if !yield(now) {
				return
			}
			now = s
		}
		yield(now)
	}
}

// kept is what is gone through, in memory of its own: what comes may still share its steps with the caller's list, or with one another.
func kept(spans iter.Seq[api.Span]) []api.Span {
	var l []api.Span
	for s := range spans {
		s.At = slices.Clone(s.At)
		l = append(l, s)
	}
	return l
}
