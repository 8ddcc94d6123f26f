package parts_test

import (
	"slices"
	"testing"

	"theodolite/api"
	"theodolite/parts"
)

// Ins whose parts are all there: Dst 1, A 2, B 3, Args 4 and 5.
func full(op uint8) api.Ins {
	return api.Ins{Op: op, Dst: 1, A: 2, B: 3, Var: 6, Num: 7, Args: []int{4, 5}}
}

// What each kind makes and looks at (14).
func TestEachKind(t *testing.T) {
	type kind struct {
		makes bool
		looks []int
	}
	kinds := map[uint8]kind{
		api.OpNot:    {true, []int{2}},
		api.OpNeg:    {true, []int{2}},
		api.InsConst: {true, nil},
		api.InsArg:   {true, nil},
		api.InsGet:   {true, nil},
		api.InsSet:   {false, []int{2}},
		api.InsCopy:  {true, []int{2}},
		api.InsLoad:  {true, []int{2}},
		api.InsStore: {false, []int{2, 3}},
		api.InsField: {true, nil},
		api.InsSetF:  {false, []int{2}},
		api.InsZero:  {false, nil},
		api.InsCall:  {true, []int{4, 5}},
		api.InsInput: {true, nil},
		api.InsPrint: {false, []int{2}},
		api.InsMark:  {false, nil},
		api.InsBind:  {false, []int{2}},
		api.InsPhi:   {true, []int{4, 5}},
	}
	for op := api.OpAdd; op <= api.OpOr; op++ {
		kinds[op] = kind{true, []int{2, 3}}
	}
	if len(kinds) != 31 {
		t.Errorf("%d kinds", len(kinds))
	}
	for op, want := range kinds {
		i := full(op)
		if got := parts.Makes(&i); got != want.makes {
			t.Errorf("Makes of %d: %v", op, got)
		}
		if got := looked(i); !slices.Equal(got, want.looks) {
			t.Errorf("Looks of %d: %d, want %d", op, got, want.looks)
		}
	}
}

func looked(i api.Ins) (l []int) {
	for v := range parts.Looks(&i) {
		l = append(l, *v)
	}
	return l
}

// -1 is none of a Call's Dst, of a Bind's A, and of what a TermRet gives back; else it is as other numbers.
func TestNone(t *testing.T) {
	i := full(api.InsCall)
	if i.Dst = -1; parts.Makes(&i) {
		t.Error("a Call without Dst makes a virtual")
	}
	i = full(api.InsLoad)
	if i.Dst = -1; !parts.Makes(&i) {
		t.Error("a Load whose Dst is -1 makes none")
	}
	i = full(api.InsBind)
	if i.A = -1; looked(i) != nil {
		t.Error("a Bind of what is gone looks at something")
	}
	i = full(api.InsPrint)
	if i.A = -1; !slices.Equal(looked(i), []int{-1}) {
		t.Errorf("a Print of -1 looks at %d", looked(i))
	}
}

func TestEnds(t *testing.T) {
	for _, c := range []struct {
		end          api.Term
		looks, goals []int
	}{
		{api.Term{Kind: api.TermJump, A: 2, To: 3, Else: 4}, nil, []int{3}},
		{api.Term{Kind: api.TermIf, A: 2, To: 4, Else: 3}, []int{2}, []int{4, 3}},
		{api.Term{Kind: api.TermIf, A: 2, To: 3, Else: 3}, []int{2}, []int{3, 3}},
		{api.Term{Kind: api.TermIf, A: -1, To: 3, Else: 3}, []int{-1}, []int{3, 3}},
		{api.Term{Kind: api.TermRet, A: 2, To: 3, Else: 4}, []int{2}, nil},
		{api.Term{Kind: api.TermRet, A: -1, To: 3, Else: 4}, nil, nil},
		{api.Term{Kind: 9, A: 2, To: 3, Else: 4}, nil, nil},
	} {
		var l []int
		for v := range parts.LooksOfEnd(&c.end) {
			l = append(l, *v)
		}
		if goals := slices.Collect(parts.Goals(&c.end)); !slices.Equal(l, c.looks) || !slices.Equal(goals, c.goals) {
			t.Errorf("%v: looks at %d, want %d, goes to %d, want %d", c.end, l, c.looks, goals, c.goals)
		}
	}
}

// What is looked at can be turned where it stands, and nothing else is.
func TestTurned(t *testing.T) {
	for op := range api.InsPhi + 1 {
		i, want := full(op), full(op)
		for n := range looked(i) {
			switch {
			case op == api.InsCall || op == api.InsPhi:
				want.Args[n] += 10
			case n == 0:
				want.A += 10
			default:
				want.B += 10
			}
		}
		for v := range parts.Looks(&i) {
			*v += 10
		}
		if i.Dst != want.Dst || i.A != want.A || i.B != want.B || i.Var != want.Var || i.Num != want.Num || !slices.Equal(i.Args, want.Args) {
			t.Errorf("%+v, want %+v", i, want)
		}
	}
	end := api.Term{Kind: api.TermIf, A: 2, To: 3, Else: 4}
	for v := range parts.LooksOfEnd(&end) {
		*v = 9
	}
	if end != (api.Term{Kind: api.TermIf, A: 9, To: 3, Else: 4}) {
		t.Errorf("%v", end)
	}
}

// One may stop going through them.
func TestLeft(t *testing.T) {
	for op := range api.InsPhi + 1 {
		i := full(op)
		for range parts.Looks(&i) {
			break
		}
	}
	end := api.Term{Kind: api.TermIf, A: 2, To: 3, Else: 4}
	for range parts.LooksOfEnd(&end) {
		break
	}
	for to := range parts.Goals(&end) {
		if to != 3 {
			t.Error(to)
		}
		break
	}
}
