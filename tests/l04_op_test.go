package tests

import (
	"math"
	"slices"
	"testing"

	"loop.example/g00468/impl"
)

// Promise 4: what comes of what is allowed is right.

func opOf(kind int, k int, v int) impl.Op {
	return impl.Op{Kind: kind, K: k, V: v}
}

func resOf(code int, list ...int) impl.Res {
	return impl.Res{Code: code, List: list}
}

func TestOpConstants(t *testing.T) {
	kinds := []int{impl.OpPut, impl.OpSet, impl.OpDel, impl.OpGet, impl.OpFind, impl.OpCount, impl.OpScan, impl.OpOpen, impl.OpMake, impl.OpVia}
	if !slices.Equal(kinds, []int{1, 2, 3, 4, 5, 6, 7, 8, 9, 10}) {
		t.Errorf("kinds %v", kinds)
	}
	codes := []int{impl.RsDone, impl.RsThere, impl.RsTaken, impl.RsNone, impl.RsNot}
	if !slices.Equal(codes, []int{0, 1, 2, 3, 4}) {
		t.Errorf("codes %v", codes)
	}
}

// takes has of each kind, by its number, the least and the greatest K and V that it takes; no kind has the number 0.
var takes = [11]struct{ leastK, mostK, leastV, mostV int }{
	{0, -1, 0, -1},
	{0, 3, 1, 6}, {0, 3, 1, 6}, {0, 3, 0, 0}, {0, 3, 0, 0}, {0, 0, 1, 6},
	{0, 2, 0, 0}, {0, 0, 0, 0}, {0, 0, 0, 0}, {0, 0, 0, 0}, {0, 0, 1, 6},
}

// everyOp has every op that is OpOk.
func everyOp() []impl.Op {
	list := []impl.Op{}
	for kind, at := range takes {
		for k := at.leastK; k <= at.mostK; k++ {
			for v := at.leastV; v <= at.mostV; v++ {
				list = append(list, opOf(kind, k, v))
			}
		}
	}
	return list
}

// wrongOps has ops that are not OpOk, for each reason that there is.
func wrongOps() []impl.Op {
	list := []impl.Op{{}}
	for _, n := range []int{math.MinInt, -1, 0, 11, math.MaxInt} {
		list = append(list, opOf(n, 0, 0), opOf(n, 0, 1), opOf(n, 1, 1))
	}
	for kind, at := range takes[1:] {
		for _, n := range []int{math.MinInt, -1, at.mostK + 1, math.MaxInt} {
			list = append(list, opOf(kind+1, n, at.leastV))
		}
		for _, n := range []int{math.MinInt, at.leastV - 1, at.mostV + 1, math.MaxInt} {
			list = append(list, opOf(kind+1, at.leastK, n))
		}
	}
	return list
}

func TestOpOkTakesKeysAndValues(t *testing.T) {
	for kind := 1; kind <= 10; kind++ {
		at := takes[kind]
		for v := at.leastV; v <= at.mostV; v++ {
			checkAccepts(t, "OpOk of K", func(k int) bool { return impl.OpOk(opOf(kind, k, v)) }, at.leastK, at.mostK)
		}
		for k := at.leastK; k <= at.mostK; k++ {
			checkAccepts(t, "OpOk of V", func(v int) bool { return impl.OpOk(opOf(kind, k, v)) }, at.leastV, at.mostV)
		}
	}
}

func TestOpOkOfKindsThatAreNone(t *testing.T) {
	for _, kind := range outside(1, 10) {
		for k := -1; k <= 4; k++ {
			for v := -1; v <= 7; v++ {
				if impl.OpOk(opOf(kind, k, v)) {
					t.Fatalf("OpOk of kind %d, K %d, V %d = true", kind, k, v)
				}
			}
		}
	}
}

func TestOpOkOfEachOp(t *testing.T) {
	if n := len(everyOp()); n != 74 {
		t.Fatalf("%d ops", n)
	}
	for _, o := range everyOp() {
		if !impl.OpOk(o) {
			t.Errorf("OpOk(%v) = false", o)
		}
	}
	for _, o := range wrongOps() {
		if impl.OpOk(o) {
			t.Errorf("OpOk(%v) = true", o)
		}
	}
}

func TestResSame(t *testing.T) {
	for _, c := range []struct {
		a, b impl.Res
		want bool
	}{
		{impl.Res{}, impl.Res{}, true},
		{impl.Res{}, impl.Res{List: []int{}}, true},
		{impl.Res{Code: 3}, impl.Res{Code: 3, List: make([]int, 0, 9)}, true},
		{resOf(-1), resOf(-1), true},
		{resOf(math.MaxInt, 1), resOf(math.MaxInt, 1), true},
		{resOf(0, 1, 2, 3), resOf(0, 1, 2, 3), true},
		{resOf(0), resOf(1), false},
		{resOf(0, 1), resOf(4, 1), false},
		{resOf(math.MinInt), resOf(math.MaxInt), false},
		{resOf(0, 1), resOf(0, 2), false},
		{resOf(0, 1, 2, 3), resOf(0, 9, 2, 3), false},
		{resOf(0, 1, 2, 3), resOf(0, 1, 9, 3), false},
		{resOf(0, 1, 2, 3), resOf(0, 1, 2, 9), false},
		{resOf(0, 1, 2, 3), resOf(0, 3, 2, 1), false},
		{resOf(0, 1, 2), resOf(0, 1, 2, 3), false},
		{resOf(0, 1, 2), resOf(0, 1, 2, 0), false},
		{resOf(0), resOf(0, 0), false},
		{impl.Res{List: []int{}}, resOf(0, 0), false},
	} {
		if impl.ResSame(c.a, c.b) != c.want || impl.ResSame(c.b, c.a) != c.want {
			t.Errorf("ResSame of %v and %v is not %v, either way round", c.a, c.b, c.want)
		}
	}
}

// mayCome says by the document's words, code by code, whether the code may come of o, which is OpOk, in rows that are RowsOk, and which list with it.
func mayCome(r impl.Rows, o impl.Op, code int) ([]int, bool) {
	has := o.Kind >= 1 && o.Kind <= 4 && r.Held[o.K] != 0
	holder := -1
	if o.V != 0 {
		holder = slices.Index(r.Held, o.V)
	}
	switch code {
	case 1:
		return nil, o.Kind == 1 && has
	case 2:
		return nil, (o.Kind == 1 || o.Kind == 2) && holder >= 0
	case 3:
		switch o.Kind {
		case 2, 3, 4:
			return nil, !has
		case 5:
			return nil, holder < 0
		case 10:
			return nil, r.State == 5 && holder < 0
		}
	case 4:
		switch o.Kind {
		case 8:
			return nil, r.State >= 1
		case 9:
			return nil, r.State == 0 || r.State == 5
		case 10:
			return nil, r.State <= 4
		}
	case 0:
		return mayBeDone(r, o, has, holder)
	}
	return nil, false
}

// mayBeDone is mayCome of the code 0.
func mayBeDone(r impl.Rows, o impl.Op, has bool, holder int) ([]int, bool) {
	switch o.Kind {
	case 1:
		return nil, !has && holder < 0
	case 2:
		return nil, has && (holder < 0 || holder == o.K)
	case 3:
		return nil, has
	case 4:
		return []int{r.Held[o.K]}, has
	case 5:
		return []int{holder}, holder >= 0
	case 6:
		n := 0
		for _, v := range r.Held {
			if v != 0 && v%3 == o.K {
				n++
			}
		}
		return []int{n}, true
	case 7:
		return slices.Clone(r.Held), true
	case 8:
		return nil, r.State == 0
	case 9:
		return nil, r.State >= 1 && r.State <= 4
	}
	return []int{holder}, r.State == 5 && holder >= 0
}

// everyRows has every rows that are RowsOk.
func everyRows() []impl.Rows {
	list := []impl.Rows{}
	for _, held := range everyHeld() {
		for state := 0; state <= 5 && holdsOk(held); state++ {
			list = append(list, impl.Rows{Held: held, State: state})
		}
	}
	return list
}

// eachRowsAndOp goes through every op in every rows, with the codes that there are. State counts for the last kinds alone: the others are asked at two states of each held.
func eachRowsAndOp(ask func(r impl.Rows, o impl.Op, code int)) {
	ops := everyOp()
	for _, r := range everyRows() {
		for j, o := range ops {
			if o.Kind < 8 && (r.State+j)%3 != 0 {
				continue
			}
			for code := 0; code <= 4; code++ {
				ask(r, o, code)
			}
		}
	}
}

// checkLists asks that with this code just the list that may come is allowed: not one with a number more, less or another, and none if the code may not come.
func checkLists(t *testing.T, r impl.Rows, o impl.Op, code int) {
	t.Helper()
	want, may := mayCome(r, o, code)
	lists := [][]int{want, append(slices.Clone(want), 0), append([]int{0}, want...)}
	if len(want) > 0 {
		other := slices.Clone(want)
		other[len(want)-1]++
		lists = append(lists, other, want[1:], want[:len(want)-1], nil)
	}
	for i, list := range lists {
		s := impl.Res{Code: code, List: list}
		if got := impl.Allowed(r, o, s); got != (may && i == 0) {
			t.Fatalf("Allowed(%v, %v, %v) = %v", r, o, s, got)
		}
	}
}

func TestAllowedOfEveryRowsAndOp(t *testing.T) {
	eachRowsAndOp(func(r impl.Rows, o impl.Op, code int) {
		checkLists(t, r, o, code)
	})
}

// The cases that the document names, one by one.
func TestAllowedCases(t *testing.T) {
	none := []impl.Res{}
	for _, c := range []struct {
		o       impl.Op
		r       impl.Rows
		allowed []impl.Res
	}{
		{opOf(1, 1, 3), rowsOf(0, 5, 0, 2, 0), []impl.Res{resOf(0)}},
		{opOf(1, 0, 3), rowsOf(0, 5, 0, 2, 0), []impl.Res{resOf(1)}},
		{opOf(1, 3, 5), rowsOf(0, 5, 0, 2, 0), []impl.Res{resOf(2)}},
		{opOf(1, 2, 5), rowsOf(0, 5, 0, 2, 0), []impl.Res{resOf(1), resOf(2)}},
		{opOf(1, 2, 2), rowsOf(0, 5, 0, 2, 0), []impl.Res{resOf(1), resOf(2)}},
		{opOf(2, 2, 3), rowsOf(0, 5, 0, 2, 0), []impl.Res{resOf(0)}},
		{opOf(2, 2, 2), rowsOf(0, 5, 0, 2, 0), []impl.Res{resOf(0), resOf(2)}},
		{opOf(2, 0, 5), rowsOf(0, 5, 0, 2, 0), []impl.Res{resOf(0), resOf(2)}},
		{opOf(2, 2, 5), rowsOf(0, 5, 0, 2, 0), []impl.Res{resOf(2)}},
		{opOf(2, 1, 3), rowsOf(0, 5, 0, 2, 0), []impl.Res{resOf(3)}},
		{opOf(2, 1, 5), rowsOf(0, 5, 0, 2, 0), []impl.Res{resOf(2), resOf(3)}},
		{opOf(3, 0, 0), rowsOf(0, 5, 0, 2, 0), []impl.Res{resOf(0)}},
		{opOf(3, 3, 0), rowsOf(0, 5, 0, 2, 0), []impl.Res{resOf(3)}},
		{opOf(4, 2, 0), rowsOf(0, 5, 0, 2, 0), []impl.Res{resOf(0, 2)}},
		{opOf(4, 1, 0), rowsOf(0, 5, 0, 2, 0), []impl.Res{resOf(3)}},
		{opOf(5, 0, 5), rowsOf(0, 5, 0, 2, 0), []impl.Res{resOf(0, 0)}},
		{opOf(5, 0, 1), rowsOf(0, 5, 0, 2, 0), []impl.Res{resOf(3)}},
		{opOf(6, 2, 0), rowsOf(0, 5, 0, 2, 0), []impl.Res{resOf(0, 2)}},
		{opOf(6, 0, 0), rowsOf(0, 5, 0, 2, 0), []impl.Res{resOf(0, 0)}},
		{opOf(7, 0, 0), rowsOf(0, 5, 0, 2, 0), []impl.Res{resOf(0, 5, 0, 2, 0)}},
		{opOf(7, 0, 0), rowsOf(5, 0, 0, 0, 0), []impl.Res{resOf(0, 0, 0, 0, 0)}},
		{opOf(8, 0, 0), rowsOf(0, 5, 0, 2, 0), []impl.Res{resOf(0)}},
		{opOf(8, 0, 0), rowsOf(1, 5, 0, 2, 0), []impl.Res{resOf(4)}},
		{opOf(8, 0, 0), rowsOf(5, 5, 0, 2, 0), []impl.Res{resOf(4)}},
		{opOf(9, 0, 0), rowsOf(0, 5, 0, 2, 0), []impl.Res{resOf(4)}},
		{opOf(9, 0, 0), rowsOf(1, 5, 0, 2, 0), []impl.Res{resOf(0)}},
		{opOf(9, 0, 0), rowsOf(4, 5, 0, 2, 0), []impl.Res{resOf(0)}},
		{opOf(9, 0, 0), rowsOf(5, 5, 0, 2, 0), []impl.Res{resOf(4)}},
		{opOf(10, 0, 2), rowsOf(0, 5, 0, 2, 0), []impl.Res{resOf(4)}},
		{opOf(10, 0, 2), rowsOf(4, 5, 0, 2, 0), []impl.Res{resOf(4)}},
		{opOf(10, 0, 2), rowsOf(5, 5, 0, 2, 0), []impl.Res{resOf(0, 2)}},
		{opOf(10, 0, 6), rowsOf(5, 5, 0, 2, 0), []impl.Res{resOf(3)}},
		{opOf(10, 0, 6), rowsOf(4, 5, 0, 2, 0), []impl.Res{resOf(4)}},
		{opOf(1, 1, 0), rowsOf(0, 5, 0, 2, 0), none},
		{opOf(1, 1, 3), rowsOf(6, 5, 0, 2, 0), none},
	} {
		got := []impl.Res{}
		for _, list := range [][]int{nil, {0}, {1}, {2}, {3}, {4}, {5}, {0, 0}, {5, 0, 2, 0}, {5, 0, 2}, {0, 0, 0, 0}} {
			for code := -1; code <= 5; code++ {
				if s := resOf(code, list...); impl.Allowed(c.r, c.o, s) {
					got = append(got, s)
				}
			}
		}
		if !slices.EqualFunc(got, c.allowed, func(a, b impl.Res) bool { return a.Code == b.Code && slices.Equal(a.List, b.List) }) {
			t.Errorf("of %v in %v: %v are allowed, want %v", c.o, c.r, got, c.allowed)
		}
	}
}

func TestAllowedTakesAnEmptyListForNone(t *testing.T) {
	for _, list := range [][]int{nil, {}, make([]int, 0, 8), withRoom(nil)[:0]} {
		if !impl.Allowed(rowsOf(0, 5, 0, 2, 0), opOf(1, 1, 3), impl.Res{List: list}) || !impl.Allowed(rowsOf(0, 5, 0, 2, 0), opOf(4, 1, 0), impl.Res{Code: 3, List: list}) {
			t.Errorf("an empty list with room for %d is refused", cap(list))
		}
	}
}

func TestAllowedOfCodesThatAreNone(t *testing.T) {
	for _, r := range []impl.Rows{impl.RowsNew(), rowsOf(2, 5, 0, 2, 0), rowsOf(5, 1, 2, 3, 4)} {
		for _, o := range everyOp() {
			for _, code := range outside(0, 4) {
				checkLists(t, r, o, code)
				if impl.Allowed(r, o, resOf(code, r.Held...)) {
					t.Fatalf("Allowed(%v, %v) with the code %d = true", r, o, code)
				}
			}
		}
	}
}

// everyRes has results of every code, with the lists that come somewhere.
func everyRes(held []int) []impl.Res {
	list := []impl.Res{}
	for _, code := range []int{-1, 0, 1, 2, 3, 4, 5, math.MinInt, math.MaxInt} {
		list = append(list, resOf(code), resOf(code, held...))
		for n := -1; n <= 7; n++ {
			list = append(list, resOf(code, n))
		}
	}
	return list
}

func TestAllowedRefusesWrongRows(t *testing.T) {
	for _, r := range wrongRows() {
		for _, o := range append(everyOp(), wrongOps()...) {
			for _, s := range everyRes(r.Held) {
				if impl.Allowed(r, o, s) {
					t.Fatalf("Allowed(%v, %v, %v) = true", r, o, s)
				}
			}
		}
	}
}

func TestAllowedRefusesWrongOps(t *testing.T) {
	for _, r := range []impl.Rows{impl.RowsNew(), rowsOf(2, 5, 0, 2, 0), rowsOf(5, 1, 2, 3, 4), rowsOf(5, 0, 0, 0, 0)} {
		for _, o := range wrongOps() {
			for _, s := range everyRes(r.Held) {
				if impl.Allowed(r, o, s) {
					t.Fatalf("Allowed(%v, %v, %v) = true", r, o, s)
				}
			}
		}
	}
}

// afterTold answers by the document's words what r is behind o and s.
func afterTold(r impl.Rows, o impl.Op, s impl.Res) impl.Rows {
	after := impl.Rows{Held: slices.Clone(r.Held), State: r.State}
	list, may := mayCome(r, o, s.Code)
	if !may || s.Code != 0 || !slices.Equal(list, s.List) {
		return after
	}
	switch o.Kind {
	case 1, 2:
		after.Held[o.K] = o.V
	case 3:
		after.Held[o.K] = 0
	case 8, 9:
		after.State = r.State + 1
	}
	return after
}

func checkAfter(t *testing.T, r impl.Rows, o impl.Op, s impl.Res, want impl.Rows) {
	t.Helper()
	got := impl.After(r, o, s)
	if !slices.Equal(got.Held, want.Held) || got.State != want.State {
		t.Fatalf("After(%v, %v, %v) = %v, want %v", r, o, s, got, want)
	}
}

func TestAfterOfEveryRowsAndOp(t *testing.T) {
	eachRowsAndOp(func(r impl.Rows, o impl.Op, code int) {
		list, may := mayCome(r, o, code)
		s := resOf(code, list...)
		checkAfter(t, r, o, s, afterTold(r, o, s))
		if may && !impl.RowsOk(impl.After(r, o, s)) {
			t.Fatalf("After(%v, %v, %v) is not RowsOk", r, o, s)
		}
		checkAfter(t, r, o, resOf(code, append(list, 0)...), r)
	})
}

func TestAfterCases(t *testing.T) {
	for _, c := range []struct {
		r    impl.Rows
		o    impl.Op
		s    impl.Res
		want impl.Rows
	}{
		{rowsOf(2, 5, 0, 2, 0), opOf(1, 1, 3), resOf(0), rowsOf(2, 5, 3, 2, 0)},
		{rowsOf(2, 5, 0, 2, 0), opOf(1, 3, 6), resOf(0), rowsOf(2, 5, 0, 2, 6)},
		{rowsOf(2, 5, 0, 2, 0), opOf(1, 2, 3), resOf(0), rowsOf(2, 5, 0, 2, 0)},
		{rowsOf(2, 5, 0, 2, 0), opOf(1, 2, 3), resOf(1), rowsOf(2, 5, 0, 2, 0)},
		{rowsOf(2, 5, 0, 2, 0), opOf(1, 1, 2), resOf(0), rowsOf(2, 5, 0, 2, 0)},
		{rowsOf(2, 5, 0, 2, 0), opOf(1, 1, 3), resOf(0, 1), rowsOf(2, 5, 0, 2, 0)},
		{rowsOf(2, 5, 0, 2, 0), opOf(2, 0, 1), resOf(0), rowsOf(2, 1, 0, 2, 0)},
		{rowsOf(2, 5, 0, 2, 0), opOf(2, 0, 5), resOf(0), rowsOf(2, 5, 0, 2, 0)},
		{rowsOf(2, 5, 0, 2, 0), opOf(2, 0, 5), resOf(2), rowsOf(2, 5, 0, 2, 0)},
		{rowsOf(2, 5, 0, 2, 0), opOf(2, 0, 2), resOf(0), rowsOf(2, 5, 0, 2, 0)},
		{rowsOf(2, 5, 0, 2, 0), opOf(2, 1, 1), resOf(0), rowsOf(2, 5, 0, 2, 0)},
		{rowsOf(2, 5, 0, 2, 0), opOf(3, 2, 0), resOf(0), rowsOf(2, 5, 0, 0, 0)},
		{rowsOf(2, 5, 0, 2, 0), opOf(3, 1, 0), resOf(3), rowsOf(2, 5, 0, 2, 0)},
		{rowsOf(2, 5, 0, 2, 0), opOf(4, 0, 0), resOf(0, 5), rowsOf(2, 5, 0, 2, 0)},
		{rowsOf(0, 5, 0, 2, 0), opOf(8, 0, 0), resOf(0), rowsOf(1, 5, 0, 2, 0)},
		{rowsOf(1, 5, 0, 2, 0), opOf(8, 0, 0), resOf(0), rowsOf(1, 5, 0, 2, 0)},
		{rowsOf(1, 5, 0, 2, 0), opOf(8, 0, 0), resOf(4), rowsOf(1, 5, 0, 2, 0)},
		{rowsOf(0, 5, 0, 2, 0), opOf(9, 0, 0), resOf(0), rowsOf(0, 5, 0, 2, 0)},
		{rowsOf(1, 5, 0, 2, 0), opOf(9, 0, 0), resOf(0), rowsOf(2, 5, 0, 2, 0)},
		{rowsOf(4, 5, 0, 2, 0), opOf(9, 0, 0), resOf(0), rowsOf(5, 5, 0, 2, 0)},
		{rowsOf(5, 5, 0, 2, 0), opOf(9, 0, 0), resOf(0), rowsOf(5, 5, 0, 2, 0)},
		{rowsOf(5, 5, 0, 2, 0), opOf(9, 0, 0), resOf(4), rowsOf(5, 5, 0, 2, 0)},
		{rowsOf(5, 5, 0, 2, 0), opOf(10, 0, 2), resOf(0, 2), rowsOf(5, 5, 0, 2, 0)},
	} {
		checkAfter(t, c.r, c.o, c.s, c.want)
	}
}

func TestAfterOfWhatIsNotAllowed(t *testing.T) {
	for _, r := range wrongRows() {
		for _, o := range append(everyOp(), wrongOps()...) {
			for _, code := range []int{0, 1, 2, 3, 4, 5, -1} {
				checkAfter(t, r, o, resOf(code), r)
			}
		}
	}
	for _, r := range []impl.Rows{impl.RowsNew(), rowsOf(2, 5, 0, 2, 0), rowsOf(4, 1, 2, 3, 4)} {
		for _, o := range wrongOps() {
			checkAfter(t, r, o, impl.Res{}, r)
		}
		for _, o := range everyOp() {
			for _, code := range outside(0, 4) {
				checkAfter(t, r, o, resOf(code), r)
			}
		}
	}
}

// withRoom has the numbers of list ahead of spare room that is not nought.
func withRoom(list []int) []int {
	return append(slices.Clone(list), 91, 92, 93, 94, 95, 96)
}

func TestOpsWriteIntoNothing(t *testing.T) {
	for _, r := range append(wrongRows(), impl.RowsNew(), rowsOf(0, 5, 0, 2, 0), rowsOf(3, 5, 0, 2, 0), rowsOf(5, 6, 1, 0, 3)) {
		held := withRoom(r.Held)
		heldBefore := slices.Clone(held)
		given := impl.Rows{Held: held[:len(r.Held)], State: r.State}
		for _, o := range append(everyOp(), wrongOps()...) {
			for _, s := range []impl.Res{resOf(0), resOf(0, 0), resOf(0, 2), resOf(0, r.Held...), resOf(2), resOf(4, 1)} {
				list := withRoom(s.List)
				listBefore := slices.Clone(list)
				told := impl.Res{Code: s.Code, List: list[:len(s.List)]}
				impl.OpOk(o)
				impl.ResSame(told, told)
				impl.Allowed(given, o, told)
				impl.After(given, o, told)
				if !slices.Equal(held, heldBefore) || !slices.Equal(list, listBefore) {
					t.Fatalf("of %v, %v, %v: Held is now %v, List %v", r, o, s, held, list)
				}
			}
		}
	}
}

func TestAfterSharesNothing(t *testing.T) {
	for _, c := range []struct {
		r impl.Rows
		o impl.Op
		s impl.Res
	}{
		{rowsOf(0, 5, 0, 2, 0), opOf(1, 1, 3), resOf(0)},
		{rowsOf(0, 5, 0, 2, 0), opOf(2, 0, 3), resOf(0)},
		{rowsOf(0, 5, 0, 2, 0), opOf(2, 0, 5), resOf(0)},
		{rowsOf(0, 5, 0, 2, 0), opOf(3, 0, 0), resOf(0)},
		{rowsOf(0, 5, 0, 2, 0), opOf(8, 0, 0), resOf(0)},
		{rowsOf(1, 5, 0, 2, 0), opOf(9, 0, 0), resOf(0)},
		{rowsOf(0, 5, 0, 2, 0), opOf(7, 0, 0), resOf(0, 5, 0, 2, 0)},
		{rowsOf(0, 5, 0, 2, 0), opOf(1, 0, 3), resOf(1)},
		{rowsOf(0, 5, 0, 2, 0), opOf(1, 0, 3), resOf(0)},
		{rowsOf(0, 5, 0, 2, 0), opOf(0, 0, 0), resOf(0)},
		{rowsOf(9, 5, 0, 2), opOf(1, 0, 3), resOf(0)},
		{rowsOf(9, 5, 0, 2, 0, 1, 1), opOf(3, 0, 0), resOf(0)},
		{rowsOf(0), opOf(3, 0, 0), resOf(0)},
	} {
		whole := withRoom(c.r.Held)
		given := impl.Rows{Held: whole[:len(c.r.Held)], State: c.r.State}
		got, other := impl.After(given, c.o, c.s), impl.After(given, c.o, c.s)
		want := slices.Clone(got.Held)
		for i := range whole {
			whole[i] = 70 + i
		}
		for i := range c.s.List {
			c.s.List[i] = 60
		}
		if !slices.Equal(got.Held, want) {
			t.Errorf("After(%v, %v, %v) became %v when Held was written into", c.r, c.o, c.s, got)
		}
		for i := range other.Held[:cap(other.Held)] {
			other.Held[:cap(other.Held)][i] = 9
		}
		if !slices.Equal(got.Held, want) || whole[0] != 70 || whole[len(whole)-1] != 69+len(whole) {
			t.Errorf("After(%v, %v, %v): what was written into the answer stands in %v or %v", c.r, c.o, c.s, got, whole)
		}
	}
}
