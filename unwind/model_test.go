package unwind_test

import (
	"math/big"
	"slices"
	"testing"

	"theodolite/api"
	"theodolite/leb"
	"theodolite/unwind"
)

const (
	mostEntries = 4000
	mostPlace   = 1 << 24
	mostUp      = 65536
	mostBelow   = 65536
)

// The chapter's words once more: numbers have no bounds here, but where they go round.

// isRight tells whether entries are a right table, each rule on its own.
func isRight(l []api.Unwind) bool {
	wrong := false
	for i, u := range l {
		wrong = wrong || u.From < 0
		wrong = wrong || i > 0 && u.From < l[i-1].To
		wrong = wrong || u.To <= u.From
		wrong = wrong || u.To > mostPlace
		wrong = wrong || u.Up < 0
		wrong = wrong || u.Up > mostUp
		for k, s := range u.Regs {
			wrong = wrong || !slices.Contains([]int{6, 7, 8, 9, 10, 11}, s.Reg)
			wrong = wrong || k > 0 && s.Reg <= u.Regs[k-1].Reg
			wrong = wrong || s.At < -mostBelow
			wrong = wrong || s.At > -2
		}
	}
	return len(l) <= mostEntries && !wrong
}

// own is the bytes of a right table.
func own(l []api.Unwind) string {
	var b []byte
	number := func(n int) { b = append(b, leb.PutU(nil, uint64(n))...) }
	number(len(l))
	end := 0
	for _, u := range l {
		number(u.From - end)
		number(u.To - u.From)
		number(int(u.Up))
		number(len(u.Regs))
		for _, s := range u.Regs {
			b = append(b, byte(s.Reg))
			number(-int(s.At))
		}
		end = u.To
	}
	return string(b)
}

// reader takes numbers from bytes, till one is not there.
type reader struct {
	b    []byte
	at   int
	gone bool
}

func (r *reader) number() *big.Int {
	n, next, e := leb.U(r.b, r.at)
	if r.gone || e != api.OK {
		r.gone = true
		return new(big.Int)
	}
	r.at = next
	return new(big.Int).SetUint64(n)
}

func (r *reader) one() int {
	if r.gone || r.at >= len(r.b) {
		r.gone = true
		return 0
	}
	r.at++
	return int(r.b[r.at-1])
}

// upTo is the next number, which is not there if it is above most.
func (r *reader) upTo(most int64) int {
	n := r.number()
	r.gone = r.gone || n.Cmp(big.NewInt(most)) > 0
	if r.gone {
		return 0
	}
	return int(n.Int64())
}

// said is the right table whose bytes stand at the beginning of b, and how many they are; false, if there is none.
func said(b []byte) (l []api.Unwind, size int, is bool) {
	r := &reader{b: b}
	end := new(big.Int)
	for range r.upTo(mostEntries) {
		from := new(big.Int).Add(end, r.number())
		end = new(big.Int).Add(from, r.number())
		r.gone = r.gone || end.Cmp(big.NewInt(mostPlace)) > 0
		if r.gone {
			return nil, 0, false
		}
		u := api.Unwind{From: int(from.Int64()), To: int(end.Int64()), Up: int64(r.upTo(mostUp))}
		for range r.upTo(6) {
			u.Regs = append(u.Regs, saved(r.one(), -int64(r.upTo(mostBelow))))
		}
		l = append(l, u)
	}
	if r.gone || !isRight(l) {
		return nil, 0, false
	}
	return l, r.at, true
}

// round is a number as 64 bits have it.
func round(x *big.Int) *big.Int {
	two64 := new(big.Int).Lsh(big.NewInt(1), 64)
	n := new(big.Int).Mod(x, two64)
	if n.Bit(63) == 1 {
		n.Sub(n, two64)
	}
	return n
}

// sum is both together, going round.
func sum(a *big.Int, b int64) *big.Int { return round(new(big.Int).Add(a, big.NewInt(b))) }

// has is the numbers of the entries that have a pc.
func has(l []api.Unwind, pc int) []int {
	var all []int
	for i, u := range l {
		if u.From <= pc && pc < u.To {
			all = append(all, i)
		}
	}
	return all
}

// isKnown and inReg are what a view knows of a register.
func isKnown(v api.View, k int) bool { return k < len(v.Known) && v.Known[k] }

func inReg(v api.View, k int) int64 {
	if k < len(v.Regs) {
		return v.Regs[k]
	}
	return 0
}

// wordAt is nil, if there is no such word.
func wordAt(v api.View, at *big.Int) *int64 {
	for i := range v.Words {
		if at.Cmp(big.NewInt(int64(i))) == 0 {
			return &v.Words[i]
		}
	}
	return nil
}

// based is a view with its frame's base.
func based(l []api.Unwind, pc int, v api.View) (api.View, api.Errno) {
	all := has(l, pc)
	if len(all) == 0 || !isKnown(v, 15) {
		return api.View{}, api.ErrNone
	}
	v.Base = sum(big.NewInt(inReg(v, 15)), l[all[0]].Up).Int64()
	return v, api.OK
}

// above is the way back, and the caller's view.
func above(l []api.Unwind, pc int, v api.View) (back int, w api.View, e api.Errno) {
	f, e := based(l, pc, v)
	if e != api.OK {
		return 0, api.View{}, e
	}
	u := l[has(l, pc)[0]]
	if !isRight([]api.Unwind{u}) {
		return 0, api.View{}, api.ErrArg
	}
	base := big.NewInt(f.Base)
	way := wordAt(v, sum(base, -1))
	if way == nil || *way < 0 || *way > mostPlace-1 {
		return 0, api.View{}, api.ErrNone
	}
	w = api.View{Known: make([]bool, 16), Regs: make([]int64, 16), Words: v.Words}
	for k := 6; k <= 11; k++ {
		if isKnown(v, k) {
			w.Known[k], w.Regs[k] = true, inReg(v, k)
		}
	}
	for _, s := range u.Regs {
		n := wordAt(v, sum(base, s.At))
		if n == nil {
			return 0, api.View{}, api.ErrNone
		}
		w.Known[s.Reg], w.Regs[s.Reg] = true, *n
	}
	w.Known[15], w.Regs[15] = true, f.Base
	return int(*way), w, api.OK
}

// What is asked of the calls.

// isTable: the entries are right, have just these bytes, and come out of them, whatever stands ahead and behind.
func isTable(t *testing.T, l []api.Unwind, want string) {
	t.Helper()
	if !unwind.Right(l) {
		t.Errorf("%v is not right", few(l))
	}
	for _, ahead := range []string{"", "\x00", "\xff\x80", "\x01\x02"} {
		if b, e := unwind.Put([]byte(ahead), l); string(b) != ahead+want || e != api.OK {
			t.Errorf("Put(%x, %v): %x, error %d, not %x", ahead, few(l), some(b), e, some(ahead+want))
		}
		for _, behind := range []string{"", "\x00", "\x01", "\x07", "\x7f", "\x80", "\xff"} {
			isGot(t, ahead+want+behind, len(ahead), l, len(ahead+want))
		}
	}
}

func isWrong(t *testing.T, l []api.Unwind) {
	t.Helper()
	if unwind.Right(l) {
		t.Errorf("%v is right", few(l))
	}
	for _, ahead := range []string{"", "\x07\x08"} {
		if b, e := unwind.Put([]byte(ahead), l); len(b) != 0 || e != api.ErrArg {
			t.Errorf("Put(%x, %v): %x, error %d, not error %d", ahead, few(l), some(b), e, api.ErrArg)
		}
	}
}

// isRightAsTheWordsSay: right, and put, or not, as the model has it.
func isRightAsTheWordsSay(t *testing.T, l []api.Unwind) {
	t.Helper()
	if isRight(l) {
		isTable(t, l, own(l))
	} else {
		isWrong(t, l)
	}
}

func isGot(t *testing.T, b string, at int, want []api.Unwind, behind int) {
	t.Helper()
	if l, next, e := unwind.Get([]byte(b), at); !same(l, want) || next != behind || e != api.OK {
		t.Errorf("Get(%x, %d): %v, %d, error %d, not %v, %d", some(b), at, few(l), next, e, few(want), behind)
	}
}

func isNotGot(t *testing.T, b string, at int, want api.Errno) {
	t.Helper()
	if l, next, e := unwind.Get([]byte(b), at); len(l) != 0 || next != 0 || e != want {
		t.Errorf("Get(%x, %d): %v, %d, error %d, not error %d", some(b), at, few(l), next, e, want)
	}
}

// isGotAsTheWordsSay: at each place of b, and around it, as the model has it; what is got is right, and is put as it stood there.
func isGotAsTheWordsSay(t *testing.T, b string) {
	t.Helper()
	for at := -1; at <= len(b)+1; at++ {
		if at < 0 || at > len(b) {
			isNotGot(t, b, at, api.ErrArg)
			continue
		}
		l, size, is := said([]byte(b[at:]))
		if !is {
			isNotGot(t, b, at, api.ErrForm)
			continue
		}
		isGot(t, b, at, l, at+size)
		if again, e := unwind.Put(nil, l); string(again) != b[at:at+size] || e != api.OK || !unwind.Right(l) {
			t.Errorf("Get(%x, %d): %v, which is put as %x, error %d", b, at, l, again, e)
		}
	}
}

// isFound: the entry of this number has the pc; none, if it is below 0.
func isFound(t *testing.T, l []api.Unwind, pc, which int) {
	t.Helper()
	var want api.Unwind
	if which >= 0 {
		want = l[which]
	}
	if u, is := unwind.Find(l, pc); !sameEntry(u, want) || is != (which >= 0) {
		t.Errorf("Find(%v, %d): %v, %v, not number %d", few(l), pc, u, is, which)
	}
}

func isFoundAsTheWordsSay(t *testing.T, l []api.Unwind, pc int) {
	t.Helper()
	isFound(t, l, pc, append(has(l, pc), -1)[0])
}

func isFrame(t *testing.T, l []api.Unwind, pc int, v api.View, base int64) {
	t.Helper()
	want := api.View{Known: v.Known, Regs: v.Regs, Base: base, Words: v.Words}
	if f, e := unwind.Frame(l, pc, v); !sameView(f, want) || e != api.OK {
		t.Errorf("Frame(%v, %d, %v): %v, error %d, not base %d", few(l), pc, little(v), little(f), e, base)
	}
}

func isNoFrame(t *testing.T, l []api.Unwind, pc int, v api.View) {
	t.Helper()
	if f, e := unwind.Frame(l, pc, v); !sameView(f, api.View{}) || e != api.ErrNone {
		t.Errorf("Frame(%v, %d, %v): %v, error %d, not error %d", few(l), pc, little(v), little(f), e, api.ErrNone)
	}
}

func isUp(t *testing.T, l []api.Unwind, pc int, v api.View, want int, view api.View) {
	t.Helper()
	if back, w, e := unwind.Up(l, pc, v); back != want || !sameView(w, view) || e != api.OK {
		t.Errorf("Up(%v, %d, %v): %d, %v, error %d, not %d, %v", few(l), pc, little(v), back, little(w), e, want, little(view))
	}
}

func isNotUp(t *testing.T, l []api.Unwind, pc int, v api.View, want api.Errno) {
	t.Helper()
	if back, w, e := unwind.Up(l, pc, v); back != 0 || !sameView(w, api.View{}) || e != want {
		t.Errorf("Up(%v, %d, %v): %d, %v, error %d, not error %d", few(l), pc, little(v), back, little(w), e, want)
	}
}

// isUpAsTheWordsSay: Frame and Up answer what the model does. It tells with which error Up answers.
func isUpAsTheWordsSay(t *testing.T, l []api.Unwind, pc int, v api.View) api.Errno {
	t.Helper()
	if f, e := based(l, pc, v); e == api.OK {
		isFrame(t, l, pc, v, f.Base)
	} else {
		isNoFrame(t, l, pc, v)
	}
	back, w, e := above(l, pc, v)
	if e == api.OK {
		isUp(t, l, pc, v, back, w)
	} else {
		isNotUp(t, l, pc, v, e)
	}
	return e
}

func sameEntry(a, b api.Unwind) bool {
	return a.From == b.From && a.To == b.To && a.Up == b.Up && slices.Equal(a.Regs, b.Regs)
}

func same(a, b []api.Unwind) bool { return slices.EqualFunc(a, b, sameEntry) }

func sameView(a, b api.View) bool {
	return slices.Equal(a.Known, b.Known) && slices.Equal(a.Regs, b.Regs) && a.Base == b.Base && slices.Equal(a.Words, b.Words)
}

func few(l []api.Unwind) []api.Unwind { return l[:min(len(l), 20)] }

func some[T string | []byte](b T) T { return b[:min(len(b), 100)] }

func little(v api.View) api.View {
	v.Words = v.Words[:min(len(v.Words), 40)]
	return v
}

// Entries and views.

func saved(reg int, at int64) api.Saved { return api.Saved{Reg: reg, At: at} }

// entry says of some places where the base is, and what was saved; that is its own.
func entry(from, to int, up int64, regs ...api.Saved) api.Unwind {
	return api.Unwind{From: from, To: to, Up: up, Regs: slices.Clone(regs)}
}

func table(l ...api.Unwind) []api.Unwind { return l }

// tableOf is so many entries of one place each, and one place between each two of them.
func tableOf(many int) []api.Unwind {
	var l []api.Unwind
	for i := range many {
		l = append(l, entry(2*i, 2*i+1, int64(i%2), saved(6+i%6, -2)))
	}
	return l
}

func clone(l []api.Unwind) []api.Unwind {
	var all []api.Unwind
	for _, u := range l {
		all = append(all, entry(u.From, u.To, u.Up, u.Regs...))
	}
	return all
}

func cloneView(v api.View) api.View {
	return api.View{Known: slices.Clone(v.Known), Regs: slices.Clone(v.Regs), Base: v.Base, Words: slices.Clone(v.Words)}
}

// wide is a view in which all is known: what is in each register, and each word, is its number and some hundreds more; register 15 is 10.
func wide() api.View {
	v := api.View{Known: slices.Repeat([]bool{true}, 16), Base: 77}
	for k := range int64(16) {
		v.Regs = append(v.Regs, 100+k)
	}
	for at := range int64(40) {
		v.Words = append(v.Words, 1000+at)
	}
	v.Regs[15] = 10
	return v
}

// caller is a view as Up answers it: of no kept register anything is known.
func caller(base int64, words []int64) api.View {
	w := api.View{Known: make([]bool, 16), Regs: make([]int64, 16), Words: slices.Clone(words)}
	return with(w, 15, base)
}

// with is a view in which one more register is known.
func with(v api.View, k int, n int64) api.View {
	v = cloneView(v)
	v.Known[k], v.Regs[k] = true, n
	return v
}

// What looks thrown, and is the same each time.

// dice answers numbers below n.
func dice(seed uint64) func(n int) int {
	return func(n int) int {
		seed = seed*6364136223846793005 + 1442695040888963407
		return int(seed >> 33 % uint64(n))
	}
}

// thrownRegs is some that rise, at most so far below the base.
func thrownRegs(next func(n int) int, below int) []api.Saved {
	var l []api.Saved
	for k := 6; k <= 11; k++ {
		if next(3) == 0 {
			l = append(l, saved(k, -2-int64(next(below-1))))
		}
	}
	return l
}

// thrown is a right table of so many entries at most, whose gaps, entries and numbers are below most, which is 2 or more.
func thrown(next func(n int) int, size, most int) []api.Unwind {
	var l []api.Unwind
	end := 0
	for range size {
		from := end
		if next(2) > 0 {
			from += next(most)
		}
		end = from + 1 + next(most)
		l = append(l, entry(from, end, int64(next(min(most, mostUp+1))), thrownRegs(next, min(most, mostBelow))...))
	}
	for !isRight(l) {
		l = l[:len(l)-1]
	}
	return l
}

// overwrite fills a list, and the room behind its end.
func overwrite[T any](l []T, x T) {
	l = l[:cap(l)]
	for i := range l {
		l[i] = x
	}
}

// spoil overwrites what all entries say, and the entries.
func spoil(l []api.Unwind) {
	for _, u := range l {
		overwrite(u.Regs, saved(99, 99))
	}
	overwrite(l, entry(98, 99, 99, saved(99, 99)))
}

func spoilView(v api.View) {
	for i := range v.Known[:cap(v.Known)] {
		v.Known[:cap(v.Known)][i] = !v.Known[:cap(v.Known)][i]
	}
	overwrite(v.Regs, -99)
	overwrite(v.Words, -98)
}

// The model itself is held against the chapter's examples.
func TestTheModelSaysWhatTheChapterSays(t *testing.T) {
	l, b := chapters()
	if !isRight(l) || own(l) != b {
		t.Errorf("%v: right: %v, bytes %x", l, isRight(l), own(l))
	}
	if got, size, is := said([]byte(b + "\xff")); !same(got, l) || size != len(b) || !is {
		t.Errorf("%x: %v, %d, %v", b, got, size, is)
	}
	if f, e := based(l, 12, chaptersView()); f.Base != 8 || e != api.OK {
		t.Errorf("Frame: base %d, error %d", f.Base, e)
	}
	back, w, e := above(l, 12, chaptersView())
	if back != 7 || w.Regs[15] != 8 || w.Regs[6] != 1 || !w.Known[6] || w.Regs[7] != 6 || !w.Known[7] || w.Known[0] || e != api.OK {
		t.Errorf("Up: %d, %v, error %d", back, w, e)
	}
}
