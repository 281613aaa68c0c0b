package tests

import (
	"fmt"
	"math"
	"slices"
	"sync"
	"testing"

	"loop.example/g00468/impl"
)

// Promise 12: what is so one behind the other is found.

func TestSearchConstants(t *testing.T) {
	if impl.MaxSearch != 7 {
		t.Errorf("MaxSearch is %d", impl.MaxSearch)
	}
}

func aheadTold(a impl.Call, b impl.Call) bool {
	return a.End >= 0 && a.End < b.Start
}

// askedTold answers by the document's words which of calls are asked of, in order.
func askedTold(calls []impl.Call) []impl.Call {
	return slices.DeleteFunc(slices.Clone(calls), func(c impl.Call) bool { return c.Lin < 0 && c.End < 0 })
}

func canBeAsked(o impl.Op) bool {
	if o.Kind < 1 || o.Kind > 10 {
		return false
	}
	at := takes[o.Kind]
	return o.K >= at.leastK && o.K <= at.mostK && o.V >= at.leastV && o.V <= at.mostV
}

// ordersOf has all orders of so many.
func ordersOf(n int) [][]int {
	if n == 0 {
		return [][]int{{}}
	}
	list := [][]int{}
	for _, order := range ordersOf(n - 1) {
		for place := range n {
			list = append(list, slices.Insert(slices.Clone(order), place, n-1))
		}
	}
	return list
}

var ordersOfEach = func() [8][][]int {
	list := [8][][]int{}
	for n := range list {
		list[n] = ordersOf(n)
	}
	return list
}()

// isOrderTold says by the document's words whether calls may be so as they stand, one behind the other from r on.
func isOrderTold(r impl.Rows, calls []impl.Call) bool {
	for i, c := range calls {
		if slices.ContainsFunc(calls[i+1:], func(later impl.Call) bool { return aheadTold(later, c) }) {
			return false
		}
	}
	for _, c := range calls {
		list, may := []int(nil), false
		if canBeAsked(c.Op) {
			list, may = mayCome(r, c.Op, c.Res.Code)
		}
		if !may || !slices.Equal(list, c.Res.List) {
			return false
		}
		r = afterTold(r, c.Op, c.Res)
	}
	return true
}

// foundTold answers by the document's words in how many orders calls may be so. Each order is gone through.
func foundTold(r impl.Rows, calls []impl.Call) int {
	if len(r.Held) != 4 || !holdsOk(r.Held) || r.State < 0 || r.State > 5 || len(calls) > 7 {
		return 0
	}
	asked, n := askedTold(calls), 0
	for _, order := range ordersOfEach[len(asked)] {
		if isOrderTold(r, inThisOrder(asked, order)) {
			n++
		}
	}
	return n
}

func inThisOrder(calls []impl.Call, order []int) []impl.Call {
	list := make([]impl.Call, len(order))
	for i, n := range order {
		list[i] = calls[n]
	}
	return list
}

func checkLinear(t *testing.T, name string, r impl.Rows, calls []impl.Call, want bool) {
	t.Helper()
	if got := impl.Linear(r, calls); got != want {
		t.Fatalf("%s: Linear(%v, %v) = %v", name, r, calls, got)
	}
}

// checkHowItIsListed asks the same of calls in each order in which they can be listed.
func checkHowItIsListed(t *testing.T, name string, r impl.Rows, calls []impl.Call, want bool) {
	t.Helper()
	for _, order := range ordersOfEach[len(calls)] {
		checkLinear(t, name, r, inThisOrder(calls, order), want)
	}
}

// spanning has a call from one time to another, that was so at the first of them.
func spanning(o impl.Op, s impl.Res, start int, end int) impl.Call {
	return callOf(0, o, start, start, end, s)
}

func TestAheadCases(t *testing.T) {
	for _, c := range []struct {
		end   int
		start int
		want  bool
	}{
		{4, 5, true}, {5, 5, false}, {6, 5, false}, {0, 5, true}, {0, 1, true}, {0, 0, false}, {0, -1, false}, {1, 0, false},
		{-1, 5, false}, {-1, 0, false}, {-1, -1, false}, {-2, 5, false}, {-2, -1, false}, {-100, 100000, false},
		{math.MinInt, math.MaxInt, false}, {math.MinInt, 0, false}, {0, math.MaxInt, true}, {math.MaxInt - 1, math.MaxInt, true},
		{math.MaxInt, math.MaxInt, false}, {math.MaxInt, math.MinInt, false}, {0, math.MinInt, false}, {99999, 100000, true},
	} {
		if got := impl.Ahead(impl.Call{End: c.end}, impl.Call{Start: c.start}); got != c.want {
			t.Errorf("Ahead of what ended at %d and what began at %d is %v", c.end, c.start, got)
		}
	}
}

// Nothing else of the calls counts, not even when they were so.
func TestAheadOfEachTime(t *testing.T) {
	put, get := opOf(impl.OpPut, 1, 3), opOf(impl.OpGet, 1, 0)
	for _, end := range edges() {
		for _, start := range edges() {
			want := end >= 0 && end < start
			for i, other := range []int{-1, 0, start, end, math.MaxInt, math.MinInt} {
				a := callOf(i%3, put, other, other, end, resOf(i, i))
				b := callOf(i%2, get, start, other, other, resOf(1))
				if got := impl.Ahead(a, b); got != want {
					t.Fatalf("Ahead(%v, %v) = %v", a, b, got)
				}
			}
		}
	}
}

// What ended before it began is ahead of itself.
func TestAheadOfItself(t *testing.T) {
	for _, start := range []int{0, 1, 7} {
		for _, end := range []int{-1, 0, 1, 6, 7, 8} {
			c := impl.Call{Start: start, End: end}
			if impl.Ahead(c, c) != (end >= 0 && end < start) {
				t.Errorf("%v", c)
			}
		}
	}
}

// passedBy has calls that are not asked, as nothing came of them yet: such as may not come, and such as are no op.
func passedBy() []impl.Call {
	list := []impl.Call{}
	for i, before := range []int{-1, -2, -100, math.MinInt} {
		list = append(list,
			callOf(1, opOf(impl.OpGet, 1, 0), 3+i, before, -1, resOf(impl.RsDone, 9)),
			callOf(0, opOf(impl.OpDel, 0, 0), 0, -1, before, resOf(impl.RsTaken)),
			callOf(2, opOf(11, 0, 0), 100, before, before, resOf(-1, 1, 2)),
			callOf(-1, impl.Op{}, -5, before, before, impl.Res{}),
		)
	}
	return list
}

func TestLinearOfNoCall(t *testing.T) {
	for _, r := range everyRows() {
		checkLinear(t, "nil", r, nil, true)
		checkLinear(t, "empty", r, []impl.Call{}, true)
	}
	checkLinear(t, "none of many", impl.RowsNew(), manyCalls(9)[:0], true)
}

func TestLinearOfWrongRows(t *testing.T) {
	scan := opOf(impl.OpScan, 0, 0)
	for _, r := range wrongRows() {
		checkLinear(t, "nil", r, nil, false)
		checkLinear(t, "a scan", r, []impl.Call{spanning(scan, resOf(0, r.Held...), 1, 2)}, false)
		checkLinear(t, "a get of nothing", r, manyCalls(1), false)
		checkLinear(t, "what is not asked", r, passedBy()[:1], false)
		checkLinear(t, "too many", r, manyCalls(8), false)
	}
}

// One call that ended, that was so, both and neither: but for the last it must be allowed.
func TestLinearOfOneCall(t *testing.T) {
	ops, rows := everyOp(), everyRows()
	for i := 0; i < len(rows); i += 23 {
		r := rows[i]
		for j := i % 3; j < len(ops); j += 3 {
			for k, s := range everyRes(r.Held) {
				list, may := mayCome(r, ops[j], s.Code)
				want := may && slices.Equal(list, s.List)
				// Each of them was so, but not told; was told, but not so; or both.
				times := [3][2]int{{0, -1}, {-1, 0}, {5, 5}}[k%3]
				checkLinear(t, "one call", r, []impl.Call{callOf(0, ops[j], k%4, times[0], times[1], s)}, want)
				if k%4 == 0 {
					checkLinear(t, "neither", r, []impl.Call{callOf(0, ops[j], k%4, -1, -1, s)}, true)
				}
			}
		}
	}
	for _, o := range wrongOps() {
		for _, s := range everyRes([]int{0, 0, 0, 0}) {
			checkLinear(t, "no op", impl.RowsNew(), []impl.Call{spanning(o, s, 1, 2)}, false)
			checkLinear(t, "no op", impl.RowsNew(), []impl.Call{openCallOf(0, o, 1)}, true)
		}
	}
}

// Which of the two times a call has: an op that may not come counts where it has either.
func TestLinearOfWhatEndedOrWasSo(t *testing.T) {
	put, get := opOf(impl.OpPut, 1, 3), opOf(impl.OpGet, 1, 0)
	times := []int{math.MinInt, -2, -1, 0, 1, 5, 6, 100000, math.MaxInt}
	for _, lin := range times {
		for _, end := range times {
			asked := lin >= 0 || end >= 0
			wrong := callOf(0, get, 2, lin, end, resOf(impl.RsDone, 4))
			good := callOf(0, put, 2, lin, end, resOf(impl.RsDone))
			// The get tells what was put by the other one alone, and is ahead of nothing.
			seen := callOf(1, get, 0, 0, -1, resOf(impl.RsDone, 3))
			checkHowItIsListed(t, "wrong", impl.RowsNew(), []impl.Call{wrong}, !asked)
			checkHowItIsListed(t, "good", impl.RowsNew(), []impl.Call{good}, true)
			checkHowItIsListed(t, "seen", impl.RowsNew(), []impl.Call{good, seen}, asked)
			checkHowItIsListed(t, "seen beside what is wrong", impl.RowsNew(), []impl.Call{good, seen, wrong}, false)
		}
	}
}

// Two calls of which one order alone is allowed, whichever of them is listed first.
func TestLinearOfTwoCalls(t *testing.T) {
	put, get := opOf(impl.OpPut, 1, 3), opOf(impl.OpGet, 1, 0)
	for _, c := range []struct {
		name             string
		putFrom, putTill int
		getFrom, getTill int
		// ahead is whether the get may be ahead of the put, behind whether it may be behind it.
		ahead, behind bool
	}{
		{"the put is ahead", 1, 2, 3, 4, false, true},
		{"the get is ahead", 3, 4, 1, 2, true, false},
		{"just ahead", 1, 2, 3, 3, false, true},
		{"just behind", 3, 3, 2, 2, true, false},
		{"the get lies within the put", 1, 5, 3, 4, true, true},
		{"the put lies within the get", 3, 4, 1, 5, true, true},
		{"both at one moment", 3, 3, 3, 3, true, true},
		{"the get begins when the put ends", 1, 3, 3, 4, true, true},
		{"the put begins when the get ends", 3, 4, 1, 3, true, true},
		{"the put ended at 0, the get begins there", 0, 0, 0, 0, true, true},
		{"the put ended at 0, the get begins at 1", 0, 0, 1, 1, false, true},
		{"the get ended at 0, the put begins at 1", 1, 1, 0, 0, true, false},
		{"the put did not end", 1, -1, 5, 6, true, true},
		{"the put did not end, and began behind the get", 7, -1, 5, 6, true, false},
		{"the put did not end, and began when the get did", 6, -1, 5, 6, true, true},
		{"the get did not end", 1, 2, 5, -1, false, true},
		{"the get did not end, and began when the put ended", 1, 2, 2, -1, true, true},
		{"both did not end", 1, -1, 5, -1, true, true},
		{"the put ended lower than -1", 1, -2, 5, 6, true, true},
		{"the get ended lower than -1", 5, 6, 1, math.MinInt, true, true},
	} {
		none := []impl.Call{spanning(put, resOf(impl.RsDone), c.putFrom, c.putTill), spanning(get, resOf(impl.RsNone), c.getFrom, c.getTill)}
		checkHowItIsListed(t, c.name+", the get is first", impl.RowsNew(), none, c.ahead)
		seen := []impl.Call{none[0], spanning(get, resOf(impl.RsDone, 3), c.getFrom, c.getTill)}
		checkHowItIsListed(t, c.name+", the put is first", impl.RowsNew(), seen, c.behind)
		other := []impl.Call{none[0], spanning(get, resOf(impl.RsDone, 4), c.getFrom, c.getTill)}
		checkHowItIsListed(t, c.name+", neither is first", impl.RowsNew(), other, false)
	}
}

// When a call was so is not asked, only whether: the search is not told.
func TestLinearDoesNotGoByWhatItIsTold(t *testing.T) {
	put, get := opOf(impl.OpPut, 1, 3), opOf(impl.OpGet, 1, 0)
	for _, putLin := range []int{-1, 0, 4, 9, math.MaxInt} {
		for _, getLin := range []int{-1, 0, 4, 9, math.MaxInt} {
			for thread := range 2 {
				a := callOf(thread, put, 1, putLin, 8, resOf(impl.RsDone))
				b := callOf(0, get, 3, getLin, 6, resOf(impl.RsDone, 3))
				none := callOf(0, get, 3, getLin, 6, resOf(impl.RsNone))
				checkHowItIsListed(t, "seen", impl.RowsNew(), []impl.Call{a, b}, true)
				checkHowItIsListed(t, "not seen", impl.RowsNew(), []impl.Call{a, none}, true)
				checkHowItIsListed(t, "both", impl.RowsNew(), []impl.Call{a, b, none}, true)
			}
		}
	}
}

// What ended before it began is ahead of itself: it stands behind nobody for that. Two of them can be ahead of each other: no order has both.
func TestLinearOfWhatEndedBeforeItBegan(t *testing.T) {
	get, none := opOf(impl.OpGet, 1, 0), resOf(impl.RsNone)
	back := spanning(get, none, 5, 1)
	r := impl.RowsNew()
	checkHowItIsListed(t, "alone", r, []impl.Call{back}, true)
	checkHowItIsListed(t, "twice", r, []impl.Call{back, back}, false)
	checkHowItIsListed(t, "two that end ahead of each other", r, []impl.Call{back, spanning(get, none, 4, 2)}, false)
	checkHowItIsListed(t, "two of which one is ahead", r, []impl.Call{back, spanning(get, none, 9, 6)}, true)
	checkHowItIsListed(t, "with one around it", r, []impl.Call{back, spanning(get, none, 0, 9)}, true)
	checkHowItIsListed(t, "with one between", r, []impl.Call{back, spanning(get, none, 2, 4)}, false)
	checkHowItIsListed(t, "one of them is not asked", r, []impl.Call{back, callOf(0, get, 5, -1, -1, none)}, true)
}

// manyCalls has so many calls, all at once, of which nothing is seen.
func manyCalls(n int) []impl.Call {
	return slices.Repeat([]impl.Call{spanning(opOf(impl.OpGet, 1, 0), resOf(impl.RsNone), 1, 2)}, n)
}

func TestLinearOfHowManyCalls(t *testing.T) {
	r := impl.RowsNew()
	for n := range 12 {
		checkLinear(t, "asked", r, manyCalls(n), n <= 7)
	}
	checkLinear(t, "a thousand", r, manyCalls(1000), false)
	// Those that are not asked count, too, wherever they stand.
	idle := passedBy()
	for not := range 10 {
		for n := range 10 {
			calls := append(slices.Clone(idle[:not]), manyCalls(n)...)
			checkLinear(t, "with some that are not asked ahead", r, calls, n+not <= 7)
			slices.Reverse(calls)
			checkLinear(t, "with some that are not asked behind", r, calls, n+not <= 7)
		}
	}
	checkLinear(t, "none is asked", r, idle[:7], true)
	checkLinear(t, "none is asked, one too many", r, idle[:8], false)
}

// What is not asked does not count otherwise, also where another one is ahead of it.
func TestLinearPassesByWhatIsNotAsked(t *testing.T) {
	r := impl.RowsNew()
	put := spanning(opOf(impl.OpPut, 1, 3), resOf(impl.RsDone), 1, 2)
	seen := spanning(opOf(impl.OpGet, 1, 0), resOf(impl.RsDone, 3), 4, 6)
	none := spanning(opOf(impl.OpGet, 1, 0), resOf(impl.RsNone), 4, 6)
	for _, c := range passedBy() {
		checkHowItIsListed(t, "one", r, []impl.Call{c}, true)
		checkHowItIsListed(t, "seen", r, []impl.Call{put, seen, c}, true)
		checkHowItIsListed(t, "not seen", r, []impl.Call{put, none, c}, false)
	}
	// A put that did not happen is not seen, and one that is not asked takes no key.
	open := openCallOf(0, opOf(impl.OpPut, 1, 3), 0)
	checkHowItIsListed(t, "an open put", r, []impl.Call{open, seen}, false)
	checkHowItIsListed(t, "an open put beside one that was so", r, []impl.Call{open, put, seen}, true)
}

// sevenInOrder has seven calls, all at once, that are allowed in just this order: three puts, and what is seen ahead of each and behind all.
func sevenInOrder() []impl.Call {
	scan := opOf(impl.OpScan, 0, 0)
	return []impl.Call{
		spanning(scan, resOf(0, 0, 0, 0, 0), 1, 9),
		spanning(opOf(impl.OpPut, 0, 1), resOf(0), 1, 9),
		spanning(scan, resOf(0, 1, 0, 0, 0), 1, 9),
		spanning(opOf(impl.OpPut, 1, 2), resOf(0), 1, 9),
		spanning(scan, resOf(0, 1, 2, 0, 0), 1, 9),
		spanning(opOf(impl.OpPut, 2, 3), resOf(0), 1, 9),
		spanning(scan, resOf(0, 1, 2, 3, 0), 1, 9),
	}
}

// The one order of seven is found, in whichever of all their orders they are listed.
func TestLinearFindsTheOnlyOrder(t *testing.T) {
	r, calls := impl.RowsNew(), sevenInOrder()
	if n := foundTold(r, calls); n != 1 {
		t.Fatalf("there are %d orders", n)
	}
	checkHowItIsListed(t, "seven", r, calls, true)
	for n := range 7 {
		checkHowItIsListed(t, fmt.Sprint("up to ", n), r, calls[:n], true)
	}
	// From other rows on there is none.
	checkLinear(t, "another row", rowsOf(0, 0, 0, 0, 4), calls, false)
	checkLinear(t, "the first one is there already", rowsOf(0, 1, 0, 0, 0), calls, false)
}

// Each two of them are where the earlier one ended before the later one began, which leaves the order, and the other way round, which leaves none.
func TestLinearKeepsWhoIsAhead(t *testing.T) {
	r := impl.RowsNew()
	for early := range 7 {
		for late := early + 1; late < 7; late++ {
			for _, turned := range []bool{false, true} {
				calls := sevenInOrder()
				calls[early].End, calls[late].Start = 4, 5
				name := fmt.Sprint(early, " is ahead of ", late)
				if turned {
					calls = sevenInOrder()
					calls[late].End, calls[early].Start = 4, 5
					name = fmt.Sprint(late, " is ahead of ", early)
				}
				checkLinear(t, name, r, calls, !turned)
				slices.Reverse(calls)
				checkLinear(t, name, r, calls, !turned)
				// At one moment none is ahead.
				for i := range calls {
					if calls[i].Start == 5 {
						calls[i].Start = 4
					}
				}
				checkLinear(t, name+", at one moment", r, calls, true)
			}
		}
	}
	// All of them one behind the other, as they are allowed and turned round.
	calls, back := sevenInOrder(), sevenInOrder()
	for i := range calls {
		calls[i].Start, calls[i].End = 2*i, 2*i+1
		back[6-i].Start, back[6-i].End = 2*i, 2*i+1
	}
	checkHowItIsListed(t, "all", r, calls, true)
	checkLinear(t, "all, turned round", r, back, false)
}

// What fails at the last call alone, in each of all orders, is found by none; one number more that is told, and it is found.
func TestLinearGoesThroughAllOrders(t *testing.T) {
	r, calls := impl.RowsNew(), []impl.Call{}
	for k := range 4 {
		calls = append(calls, spanning(opOf(impl.OpPut, k, k+1), resOf(impl.RsDone), 1, 9))
	}
	calls = append(calls, spanning(opOf(impl.OpOpen, 0, 0), resOf(impl.RsDone), 1, 9), spanning(opOf(impl.OpFind, 0, 6), resOf(impl.RsNone), 1, 9))
	scan := opOf(impl.OpScan, 0, 0)
	for _, s := range []impl.Res{resOf(0, 1, 2, 3, 5), resOf(0, 1, 2, 3), resOf(0), resOf(0, 1, 2, 3, 4, 0), resOf(1, 1, 2, 3, 4)} {
		checkLinear(t, "none", r, append(slices.Clone(calls), spanning(scan, s, 1, 9)), false)
	}
	checkLinear(t, "the last", r, append(slices.Clone(calls), spanning(scan, resOf(0, 1, 2, 3, 4), 1, 9)), true)
	checkLinear(t, "the first", r, append(slices.Clone(calls), spanning(scan, resOf(0, 0, 0, 0, 0), 1, 9)), true)
	checkLinear(t, "between", r, append(slices.Clone(calls), spanning(scan, resOf(0, 0, 2, 0, 4), 1, 9)), true)
	// The scan is ahead of them all, or they of it.
	checkLinear(t, "ahead of all", r, append(slices.Clone(calls), spanning(scan, resOf(0, 1, 2, 3, 4), 0, 0)), false)
	checkLinear(t, "behind all", r, append(slices.Clone(calls), spanning(scan, resOf(0, 0, 2, 0, 4), 10, 11)), false)
}

// Two that are alike stand in the order twice.
func TestLinearOfCallsThatAreAlike(t *testing.T) {
	put := spanning(opOf(impl.OpPut, 1, 3), resOf(impl.RsDone), 1, 9)
	there := spanning(opOf(impl.OpPut, 1, 3), resOf(impl.RsThere), 1, 9)
	del := spanning(opOf(impl.OpDel, 1, 0), resOf(impl.RsDone), 1, 9)
	for _, c := range []struct {
		name  string
		calls []impl.Call
		want  bool
	}{
		{"a put twice", []impl.Call{put, put}, false},
		{"a put, and one that was there", []impl.Call{put, there}, true},
		{"one that was there twice", []impl.Call{put, there, there}, true},
		{"one that was there, of none", []impl.Call{there}, false},
		{"a put twice with a del", []impl.Call{put, put, del}, true},
		{"a del twice with a put", []impl.Call{put, del, del}, false},
		{"three puts and two dels", []impl.Call{put, put, put, del, del}, true},
		{"three puts, two dels, two that were there", []impl.Call{put, put, put, del, del, there, there}, true},
		{"three puts and three dels", []impl.Call{put, put, put, del, del, del}, true},
		{"three puts and four dels", []impl.Call{put, put, put, del, del, del, del}, false},
	} {
		checkLinear(t, c.name, impl.RowsNew(), c.calls, c.want)
		slices.Reverse(c.calls)
		checkLinear(t, c.name+", listed the other way round", impl.RowsNew(), c.calls, c.want)
	}
}

// anyCalls has calls that are so one behind the other from r on, each while it was asked, and more than one at a time. They stand as they began.
func anyCalls(d *dice, r impl.Rows, n int, long int) []impl.Call {
	ops, calls := everyOp(), []impl.Call{}
	for i := range n {
		o := ops[d.roll(len(ops))]
		codes := slices.DeleteFunc([]int{0, 1, 2, 3, 4}, func(code int) bool {
			_, may := mayCome(r, o, code)
			return !may
		})
		code := codes[d.roll(len(codes))]
		list, _ := mayCome(r, o, code)
		now := 10 + 10*i
		c := callOf(i%4, o, max(now-d.roll(long), 0), now, now+d.roll(long), resOf(code, list...))
		if d.roll(5) == 0 {
			c.End = -1
		}
		r = afterTold(r, o, c.Res)
		calls = append(calls, c)
	}
	slices.SortStableFunc(calls, func(a impl.Call, b impl.Call) int { return a.Start - b.Start })
	return calls
}

// spoilCalls turns one thing of calls, into what they can be or cannot be.
func spoilCalls(d *dice, calls []impl.Call) {
	c, other := &calls[d.roll(len(calls))], &calls[d.roll(len(calls))]
	switch d.roll(7) {
	case 0:
		c.Res.Code = d.roll(5)
	case 1:
		c.Res, other.Res = other.Res, c.Res
	case 2:
		c.Op, other.Op = other.Op, c.Op
	case 3:
		c.Start += 15
	case 4:
		c.End = max(c.End-15, -1)
	case 5:
		c.Lin = -1
	case 6:
		c.Start, c.End, other.Start, other.End = other.Start, other.End, c.Start, c.End
	}
}

// Calls that look like any are found just where the document's words find them, and those that were so one behind the other are.
func TestLinearOfAnyCalls(t *testing.T) {
	rows := everyRows()
	var all sync.WaitGroup
	for part := range 8 {
		all.Go(func() {
			d, met := dice(41+part), map[[2]bool]int{}
			for i := range 140 {
				r := rows[d.roll(len(rows))]
				calls := anyCalls(&d, r, 1+i%7, 1+d.roll(40))
				if !impl.Linear(r, calls) {
					t.Errorf("Linear(%v, %v) is not found", r, calls)
				}
				for range 4 {
					spoilCalls(&d, calls)
					n := foundTold(r, calls)
					if impl.Linear(r, calls) != (n > 0) {
						t.Errorf("Linear(%v, %v) is not so: there are %d orders", r, calls, n)
					}
					met[[2]bool{n > 0, isOrderTold(r, askedTold(calls))}]++
				}
			}
			if met[[2]bool{true, true}] < 20 || met[[2]bool{true, false}] < 20 || met[[2]bool{false, false}] < 20 {
				t.Errorf("found, as they are listed: %v", met)
			}
		})
	}
	all.Wait()
}

func checkTold(t *testing.T, name string, m impl.Machine, want []impl.Call) {
	t.Helper()
	if got := impl.Told(m); !slices.EqualFunc(got, want, callSame) {
		t.Fatalf("%s: Told(%v) = %v, want %v", name, m, got, want)
	}
}

func TestToldOfNewMachines(t *testing.T) {
	for i, r := range everyRows() {
		m := newMachine(t, r, slices.Repeat([][]impl.Op{manyOps(i % 9)}, 1+i%4)...)
		checkTold(t, "new", m, nil)
		checkLinear(t, "new", m.First, impl.Told(m), true)
	}
	checkTold(t, "zero", impl.Machine{}, nil)
}

// A put and a scan are told, a del was so and is open, a get was not so.
func TestToldInTheMiddleOfARun(t *testing.T) {
	put, scan, del, get := opOf(impl.OpPut, 1, 3), opOf(impl.OpScan, 0, 0), opOf(impl.OpDel, 0, 0), opOf(impl.OpGet, 0, 0)
	m := newMachine(t, rowsOf(2, 5, 0, 0, 0), []impl.Op{put, scan}, []impl.Op{del}, []impl.Op{get})
	m = runAll(t, m, 2, 0)
	checkTold(t, "two began", m, nil)
	for len(m.Order) == 0 {
		m = runAll(t, m, 0)
	}
	// The put is open still, and stands behind the get, which is not told.
	checkTold(t, "the put was so", m, []impl.Call{callOf(0, put, 2, m.Time, -1, resOf(impl.RsDone))})
	so := m.Time
	m = impl.Alone(m, 0, 800)
	told := []impl.Call{callOf(0, put, 2, so, m.Time, resOf(impl.RsDone))}
	checkTold(t, "the put was told", m, told)
	began := m.Time + 1
	for len(m.Order) < 2 {
		m = runAll(t, m, 0)
	}
	so = m.Time
	checkTold(t, "the scan was so", m, append(slices.Clone(told), callOf(0, scan, began, so, -1, resOf(impl.RsDone, 5, 3, 0, 0))))
	m = impl.Alone(m, 0, 800)
	told = append(told, callOf(0, scan, began, so, m.Time, resOf(impl.RsDone, 5, 3, 0, 0)))
	checkTold(t, "the scan was told", m, told)
	began = m.Time + 1
	for len(m.Order) < 3 {
		m = runAll(t, m, 1)
	}
	told = append(told, callOf(1, del, began, m.Time, -1, resOf(impl.RsDone)))
	checkTold(t, "the del was so", m, told)
	checkLinear(t, "the middle", m.First, impl.Told(m), true)
	m = impl.Fair(m, 200)
	checkTold(t, "finished", m, m.Calls)
	checkLinear(t, "finished", m.First, impl.Told(m), true)
}

// They stand as they began, not as they were so or ended.
func TestToldGoesByWhenCallsBegan(t *testing.T) {
	get := opOf(impl.OpGet, 1, 0)
	calls := []impl.Call{callOf(0, get, 1, 9, 12, resOf(impl.RsNone)), callOf(1, get, 2, 5, 6, resOf(impl.RsNone)), callOf(1, get, 8, 8, -1, resOf(impl.RsNone))}
	m := history(t, impl.RowsNew(), calls...)
	if !slices.Equal(m.Order, []int{1, 2, 0}) {
		t.Fatalf("Order %v", m.Order)
	}
	checkTold(t, "three", m, calls)
	checkTold(t, "turned round", turned(m, func(m *impl.Machine) { slices.Reverse(m.Calls) }), []impl.Call{calls[2], calls[1], calls[0]})
}

// Which of the two times a call has.
func TestToldOfWhatEndedOrWasSo(t *testing.T) {
	times := []int{math.MinInt, -2, -1, 0, 1, 5, 100001, math.MaxInt}
	for _, lin := range times {
		for _, end := range times {
			c := callOf(9, opOf(11, 12, 13), -4, lin, end, resOf(14, 15, 16))
			want := []impl.Call{}
			if lin >= 0 || end >= 0 {
				want = []impl.Call{c, c}
			}
			checkTold(t, "alone", impl.Machine{Calls: []impl.Call{c, c}}, want)
			among := impl.Machine{Calls: []impl.Call{openCallOf(0, impl.Op{}, 1), c, openCallOf(1, impl.Op{}, 1), c, openCallOf(2, impl.Op{}, 1)}}
			checkTold(t, "among others", among, want)
		}
	}
}

// Nothing else of a machine is asked.
func TestToldOfWrongMachines(t *testing.T) {
	for i, m := range wrongMachines() {
		checkTold(t, fmt.Sprint("wrong machine ", i), m, askedTold(m.Calls))
	}
	good := impl.Fair(puts(t), 200)
	checkTold(t, "good", good, good.Calls)
	for i, turn := range spoils(good) {
		m := turned(good, turn)
		checkTold(t, fmt.Sprint("turn ", i), m, askedTold(m.Calls))
	}
	checkTold(t, "calls alone", impl.Machine{Calls: good.Calls}, good.Calls)
	checkTold(t, "all but calls", turned(good, func(m *impl.Machine) { m.Calls = nil }), nil)
	many := slices.Repeat(append(passedBy(), good.Calls...), 50)
	checkTold(t, "more than a machine has", impl.Machine{Calls: many}, askedTold(many))
}

// checkFoundIn asks that what m tells is found, one behind the other; more than MaxSearch are not looked for. It answers whether they are so as they stand.
func checkFoundIn(t *testing.T, m impl.Machine) bool {
	t.Helper()
	told := askedTold(m.Calls)
	checkTold(t, "a state", m, told)
	checkLinear(t, "a state", m.First, impl.Told(m), len(told) <= 7)
	return isOrderTold(m.First, told)
}

// From each state that small crowds can be in: what was told is found, also where somebody is in the middle of a try, whom nobody can tell from one that is stopped for good.
func TestWhatIsSoIsFoundWhoeverGoesOnWhen(t *testing.T) {
	inEachCrowd(t, func(t *testing.T, m impl.Machine) {
		checkFoundIn(t, m)
	})
}

// Few ops of up to four threads, in orders that look like any: what was told is found behind each step.
func TestWhatIsSoIsFoundInRuns(t *testing.T) {
	d, otherwise := dice(51), 0
	for i := range 200 {
		threads := 1 + i%4
		m := anyMachine(t, &d, threads, [4]int{7, 3, 2, 1}[threads-1])
		for !impl.Finished(m) {
			m, _ = impl.Step(m, d.roll(threads))
			if !checkFoundIn(t, m) {
				otherwise++
			}
		}
		checkOver(t, m)
	}
	if otherwise < 100 {
		t.Errorf("only %d were not so as they began", otherwise)
	}
}

// Of more ops what was told is found as long as it can be looked for, and not beyond.
func TestWhatIsSoIsFoundInLongRuns(t *testing.T) {
	d, beyond := dice(52), 0
	for i := range 40 {
		m := anyMachine(t, &d, 2+i%3, 8)
		for !impl.Finished(m) {
			for _, who := range anyOrder(&d, len(m.Threads), 2, 6) {
				m, _ = impl.Step(m, who)
			}
			checkFoundIn(t, m)
			if len(impl.Told(m)) > 7 {
				beyond++
			}
		}
	}
	if beyond < 100 {
		t.Errorf("only %d told more than can be looked for", beyond)
	}
}

// Threads are stopped for good, each in the middle of a try: what was told by the others, and what they had so for it, is found.
func TestWhatIsSoIsFoundWhereSomeAreStopped(t *testing.T) {
	d, open, not := dice(53), 0, 0
	for i := range 150 {
		threads := 2 + i%3
		m := anyMachine(t, &d, threads, [3]int{3, 2, 1}[threads-2])
		left := othersThan(m, -1)
		for slices.ContainsFunc(left, func(who int) bool { return !impl.ThreadDone(m.Threads[who]) }) {
			who := left[d.roll(len(left))]
			m, _ = impl.Step(m, who)
			checkFoundIn(t, m)
			if len(left) > 1 && len(m.Threads[who].Stack) > 0 && d.roll(4) == 0 {
				left = slices.DeleteFunc(left, func(w int) bool { return w == who })
			}
		}
		for _, c := range m.Calls {
			switch {
			case c.End >= 0:
			case c.Lin >= 0:
				open++
			default:
				not++
			}
		}
	}
	if open < 10 || not < 10 {
		t.Errorf("of the calls that stay open %d were so, %d were not", open, not)
	}
}

// What a machine tells, with one thing turned: it is found just where the document's words find it.
func TestWhatIsTurnedIsFoundByTheDocumentAlone(t *testing.T) {
	d, found, none := dice(54), 0, 0
	for i := range 60 {
		threads := 2 + i%3
		m := anyMachine(t, &d, threads, [3]int{3, 2, 1}[threads-2])
		m = impl.Fair(impl.Play(m, anyOrder(&d, threads, 20, 9)), 400)
		for range 30 {
			calls := impl.Told(m)
			spoilCalls(&d, calls)
			n := foundTold(m.First, calls)
			checkLinear(t, "turned", m.First, calls, n > 0)
			if n > 0 {
				found++
			} else {
				none++
			}
		}
	}
	if found < 100 || none < 100 {
		t.Errorf("%d were found, %d were not", found, none)
	}
}

func TestToldSharesNothing(t *testing.T) {
	list := append(someMachines(t), history(t, impl.RowsNew(), sevenInOrder()[0]), impl.Machine{Calls: append(passedBy(), sevenInOrder()...)})
	for i, m := range list {
		checkSpansApart(t, fmt.Sprint("Told of machine ", i), func(look func([]span)) asked {
			given := roomyMachine(m)
			look(spansOf(given))
			return asked{spansOf(given), spansOf(impl.Machine{Calls: impl.Told(given)})}
		})
		// No two lists of the answer are one, also where they are in the argument.
		one := withOneList(m)
		checkSpansApart(t, fmt.Sprint("Told of machine ", i, " with one list"), func(look func([]span)) asked {
			look(nil)
			return asked{nil, spansOf(impl.Machine{Calls: impl.Told(one)})}
		})
	}
}

// searches has calls that are found, and such as are not, with the rows that they begin with.
func searches(t *testing.T) []impl.Machine {
	list := []impl.Machine{{}, {First: impl.RowsNew()}, {First: wrongRows()[2], Calls: manyCalls(2)}, {First: impl.RowsNew(), Calls: manyCalls(8)}}
	for i := range 8 {
		calls := sevenInOrder()
		slices.Reverse(calls[:i%7+1])
		if i%2 == 1 {
			calls[i%7].Res.Code = 3
		}
		list = append(list, impl.Machine{First: impl.RowsNew(), Calls: append(calls[:6], passedBy()[i])})
	}
	d, rows := dice(55), everyRows()
	for i := range 30 {
		r := rows[d.roll(len(rows))]
		calls := anyCalls(&d, r, 1+i%7, 30)
		if i%2 == 1 {
			spoilCalls(&d, calls)
		}
		list = append(list, impl.Machine{First: r, Calls: calls})
	}
	return append(list, someMachines(t)...)
}

// Nothing is written into what is looked through, nor into the spare room behind it, and what stands there does not count.
func TestSearchWritesIntoNothing(t *testing.T) {
	for i, m := range searches(t) {
		given := roomyMachine(m)
		before := textsOf(spansOf(given))
		checkLinear(t, fmt.Sprint("search ", i), given.First, given.Calls, foundTold(m.First, m.Calls) > 0)
		for _, a := range given.Calls {
			for _, b := range given.Calls {
				if impl.Ahead(a, b) != aheadTold(a, b) {
					t.Errorf("Ahead(%v, %v)", a, b)
				}
			}
		}
		if after := textsOf(spansOf(given)); !slices.Equal(before, after) {
			t.Errorf("%v was written: %v", before, after)
		}
	}
}

// Nothing is kept: the same is answered of the same calls, whatever was asked meanwhile, also where many ask at once.
func TestSearchAnswersTheSameAtEachCall(t *testing.T) {
	list := searches(t)
	want := []bool{}
	for _, m := range list {
		want = append(want, foundTold(m.First, m.Calls) > 0)
	}
	var all sync.WaitGroup
	for range 8 {
		all.Go(func() {
			for range 3 {
				for i, m := range list {
					if impl.Linear(m.First, m.Calls) != want[i] || !slices.EqualFunc(impl.Told(m), askedTold(m.Calls), callSame) {
						t.Errorf("search %d: %v, want %v", i, m, want[i])
					}
				}
			}
		})
	}
	all.Wait()
}
