package tests

import (
	"fmt"
	"math"
	"slices"
	"testing"

	"loop.example/g00468/impl"
)

// Promise 8: who helps comes back.

func threadSame(a impl.Thread, b impl.Thread) bool {
	return slices.Equal(a.Ops, b.Ops) && a.Pc == b.Pc && a.On == b.On && slices.Equal(a.Got, b.Got) && slices.Equal(a.Stack, b.Stack)
}

// manyOps has so many ops that are OpOk, each of another kind than the one ahead of it.
func manyOps(n int) []impl.Op {
	list := []impl.Op{}
	for i := range n {
		list = append(list, []impl.Op{{Kind: impl.OpPut, K: 3, V: 6}, {Kind: impl.OpScan}, {Kind: impl.OpVia, V: 1}}[i%3])
	}
	return list
}

func manyPairs(n int) []impl.Pair {
	list := []impl.Pair{}
	for i := range n {
		list = append(list, impl.Pair{At: i % 20, N: 1000 - i})
	}
	return list
}

func manyHelps(n int) []impl.Help {
	list := []impl.Help{}
	for i := range n {
		list = append(list, helpOf(i%4, 1+i, i%21, 20-i%21))
	}
	return list
}

// busy has a thread of 4 that is at the second one of three ops, has read something, and helps somebody.
func busy() impl.Thread {
	return impl.Thread{Ops: manyOps(3), Pc: 1, On: true, Got: manyPairs(2), Stack: manyHelps(2)}
}

// with has t turned.
func with(t impl.Thread, turn func(*impl.Thread)) impl.Thread {
	turn(&t)
	return t
}

// threadTold says by the document's words whether t is ThreadOk.
func threadTold(t impl.Thread, threads int) bool {
	ops := len(t.Ops)
	if ops > 8 || t.Pc < 0 || t.Pc > ops || len(t.Got) > 12 || len(t.Stack) > 2 {
		return false
	}
	if t.On && t.Pc == ops || !t.On && (len(t.Got) > 0 || len(t.Stack) > 0) {
		return false
	}
	for _, o := range t.Ops {
		if !impl.OpOk(o) {
			return false
		}
	}
	for _, p := range t.Got {
		if p.At < 0 || p.At > 19 || p.N < 0 || p.N > 1000 {
			return false
		}
	}
	for _, h := range t.Stack {
		if h.T < 0 || h.T >= threads || h.Seq < 1 || h.Seq > 1000000 || h.At < 0 || h.At > 20 || h.Fin < 0 || h.Fin > 20 {
			return false
		}
	}
	return true
}

func checkThreadOk(t *testing.T, x impl.Thread, threads int, want bool) {
	t.Helper()
	if ok := impl.ThreadOk(x, threads); ok != want || threadTold(x, threads) != want {
		t.Fatalf("ThreadOk(%v, %d) = %v, want %v", x, threads, ok, want)
	}
}

func TestThreadConstants(t *testing.T) {
	if impl.MaxOps != 8 {
		t.Errorf("MaxOps %d", impl.MaxOps)
	}
}

func TestThreadOkOfHowManyOps(t *testing.T) {
	for n := range 40 {
		checkThreadOk(t, impl.Thread{Ops: manyOps(n)}, 1, n <= 8)
		checkThreadOk(t, impl.Thread{Ops: manyOps(n), Pc: n}, 1, n <= 8)
		checkThreadOk(t, impl.Thread{Ops: manyOps(n), On: true}, 1, n >= 1 && n <= 8)
	}
	// What stands in the spare room is no op.
	for n := range 9 {
		checkThreadOk(t, impl.Thread{Ops: append(manyOps(n), wrongOps()...)[:n]}, 1, true)
	}
}

func TestThreadOkOfEachOp(t *testing.T) {
	for place := range 8 {
		for _, o := range append(everyOp(), wrongOps()...) {
			list := manyOps(8)
			list[place] = o
			for pc := range 8 {
				checkThreadOk(t, impl.Thread{Ops: list, Pc: pc, On: true}, 2, impl.OpOk(o))
			}
			checkThreadOk(t, impl.Thread{Ops: list, Pc: 8}, 2, impl.OpOk(o))
		}
	}
}

func TestThreadOkOfPcAndOn(t *testing.T) {
	for ops := range 9 {
		at := func(on bool) func(int) bool {
			return func(pc int) bool { return impl.ThreadOk(impl.Thread{Ops: manyOps(ops), Pc: pc, On: on}, 1) }
		}
		checkAccepts(t, fmt.Sprint("ThreadOk of Pc, not On, of ops ", ops), at(false), 0, ops)
		checkAccepts(t, fmt.Sprint("ThreadOk of Pc, On, of ops ", ops), at(true), 0, ops-1)
	}
}

func TestThreadOkOfWhatIsNotOn(t *testing.T) {
	for pc := 0; pc <= 3; pc++ {
		for got := range 4 {
			for helps := range 3 {
				x := impl.Thread{Ops: manyOps(3), Pc: pc, Got: manyPairs(got), Stack: manyHelps(helps)}
				checkThreadOk(t, x, 4, got == 0 && helps == 0)
				x.On = true
				checkThreadOk(t, x, 4, pc < 3)
				// What stands in the spare room was not read, and is nobody.
				x.On, x.Got, x.Stack = false, x.Got[:0], x.Stack[:0]
				checkThreadOk(t, x, 4, true)
			}
		}
	}
}

func TestThreadOkOfHowMuchIsGot(t *testing.T) {
	for n := range 60 {
		checkThreadOk(t, with(busy(), func(x *impl.Thread) { x.Got = manyPairs(n) }), 4, n <= 12)
		checkThreadOk(t, with(busy(), func(x *impl.Thread) { x.Got = make([]impl.Pair, n) }), 4, n <= 12)
	}
	checkThreadOk(t, with(busy(), func(x *impl.Thread) { x.Got = append(manyPairs(12), impl.Pair{At: -1})[:12] }), 4, true)
}

func TestThreadOkOfEachPair(t *testing.T) {
	for place := range 12 {
		ok := func(p impl.Pair) bool {
			got := manyPairs(12)
			got[place] = p
			return impl.ThreadOk(with(busy(), func(x *impl.Thread) { x.Got = got }), 4)
		}
		checkAccepts(t, "ThreadOk of At", func(n int) bool { return ok(impl.Pair{At: n}) }, 0, 19)
		for _, n := range edges() {
			for _, at := range []int{-1, 0, 7, 19, 20} {
				if got := ok(impl.Pair{At: at, N: n}); got != (at >= 0 && at <= 19 && n >= 0 && n <= 1000) {
					t.Errorf("ThreadOk of At %d and N %d = %v", at, n, got)
				}
			}
		}
	}
}

func TestThreadOkOfHowManyHelps(t *testing.T) {
	for n := range 40 {
		checkThreadOk(t, with(busy(), func(x *impl.Thread) { x.Stack = manyHelps(n) }), 4, n <= 2)
		checkThreadOk(t, with(busy(), func(x *impl.Thread) { x.Stack = slices.Repeat(manyHelps(1), n) }), 4, n <= 2)
	}
	checkThreadOk(t, with(busy(), func(x *impl.Thread) { x.Stack = append(manyHelps(2), impl.Help{T: -1})[:2] }), 4, true)
}

func TestThreadOkOfEachHelp(t *testing.T) {
	for place := range 2 {
		ok := func(threads int, h impl.Help) bool {
			helps := manyHelps(2)
			helps[1-place].T = 0
			helps[place] = h
			x := with(busy(), func(x *impl.Thread) { x.Stack = helps })
			if impl.ThreadOk(x, threads) != threadTold(x, threads) {
				t.Fatalf("ThreadOk(%v, %d) = %v", x, threads, impl.ThreadOk(x, threads))
			}
			return impl.ThreadOk(x, threads)
		}
		for threads := 1; threads <= 4; threads++ {
			checkAccepts(t, fmt.Sprint("ThreadOk of T, of threads ", threads), func(n int) bool { return ok(threads, helpOf(n, 1, 0, 0)) }, 0, threads-1)
		}
		checkAccepts(t, "ThreadOk of At", func(n int) bool { return ok(1, helpOf(0, 1, n, 3)) }, 0, 20)
		checkAccepts(t, "ThreadOk of Fin", func(n int) bool { return ok(1, helpOf(0, 1, 3, n)) }, 0, 20)
		for _, n := range edges() {
			if got := ok(1, helpOf(0, n, 0, 0)); got != (n >= 1 && n <= 1000000) {
				t.Errorf("ThreadOk of Seq %d = %v", n, got)
			}
			for _, threads := range edges() {
				ok(threads, helpOf(n, 1, 20, 20))
			}
		}
	}
}

func TestThreadOkOfHowManyThreads(t *testing.T) {
	least, most := math.MinInt, math.MaxInt
	for _, threads := range append(edges(), least, most) {
		// Who helps nobody is asked nothing of them.
		checkThreadOk(t, impl.Thread{}, threads, true)
		checkThreadOk(t, with(busy(), func(x *impl.Thread) { x.Stack = nil }), threads, true)
	}
	for _, c := range []struct {
		thread  int
		threads int
		want    bool
	}{
		{-1, -1, false}, {0, -1, false}, {-2, -1, false}, {0, 0, false}, {-1, 0, false}, {0, 1, true}, {1, 1, false}, {-1, 1, false},
		{3, 4, true}, {4, 4, false}, {4, 5, true}, {0, most, true}, {3, most, true}, {most - 1, most, true}, {most, most, false}, {-1, most, false}, {least, most, false},
		{0, least, false}, {most, least, false}, {least, least, false}, {least, least + 1, false}, {-1, least, false},
	} {
		checkThreadOk(t, with(busy(), func(x *impl.Thread) { x.Stack = []impl.Help{helpOf(c.thread, 1, 0, 0)} }), c.threads, c.want)
	}
}

// somePcs are such at which a thread of at most 8 ops can be, and cannot be.
var somePcs = []int{math.MinInt, -1, 0, 1, 2, 3, 8, 9, math.MaxInt}

// someThreads has threads of all that a thread has together, ThreadOk and not.
func someThreads() []impl.Thread {
	wrong := helpOf(-1, 0, 21, -1)
	list := []impl.Thread{}
	for _, ops := range [][]impl.Op{nil, manyOps(1), manyOps(3), manyOps(8), manyOps(9), wrongOps()[:2]} {
		for _, pc := range somePcs {
			for _, got := range [][]impl.Pair{nil, manyPairs(1), manyPairs(12), manyPairs(13), {{At: -1, N: -1}}} {
				for _, helps := range [][]impl.Help{nil, manyHelps(1), manyHelps(2), manyHelps(3), {wrong}, {manyHelps(1)[0], wrong}} {
					x := impl.Thread{Ops: ops, Pc: pc, Got: got, Stack: helps}
					list = append(list, x, with(x, func(x *impl.Thread) { x.On = true }))
				}
			}
		}
	}
	return list
}

func TestThreadOkOfAllTogether(t *testing.T) {
	good := 0
	for _, x := range someThreads() {
		for _, threads := range []int{math.MinInt, -1, 0, 1, 2, 4, math.MaxInt} {
			checkThreadOk(t, x, threads, threadTold(x, threads))
			if impl.ThreadOk(x, threads) {
				good++
			}
		}
	}
	if good < 100 {
		t.Errorf("only %d threads are ThreadOk", good)
	}
}

func TestThreadNew(t *testing.T) {
	for _, list := range [][]impl.Op{nil, {}, manyOps(1), manyOps(3), manyOps(8), manyOps(9), manyOps(100), everyOp(), wrongOps(), wrongOps()[:1], {opOf(math.MaxInt, math.MinInt, -1)}} {
		x := impl.ThreadNew(list)
		if !threadSame(x, impl.Thread{Ops: list}) {
			t.Errorf("ThreadNew(%v) = %v", list, x)
		}
		checkThreadOk(t, x, 1, threadTold(impl.Thread{Ops: list}, 1))
		if impl.ThreadDone(x) != (len(list) == 0) {
			t.Errorf("ThreadDone of ThreadNew(%v) = %v", list, impl.ThreadDone(x))
		}
	}
}

func TestThreadDone(t *testing.T) {
	for ops := range 20 {
		checkAccepts(t, fmt.Sprint("ThreadDone of Pc, of ops ", ops), func(pc int) bool {
			return impl.ThreadDone(impl.Thread{Ops: manyOps(ops), Pc: pc})
		}, ops, ops)
	}
	// It is asked of Pc alone, whatever else there is, and whether it is ThreadOk or not.
	for _, x := range someThreads() {
		if impl.ThreadDone(x) != (x.Pc == len(x.Ops)) {
			t.Fatalf("ThreadDone(%v) = %v", x, impl.ThreadDone(x))
		}
	}
}

// strayHelps has helps such as a thread can be about, and cannot be.
func strayHelps() []impl.Help {
	return []impl.Help{{}, helpOf(0, 1, 0, 0), helpOf(3, 1000000, 20, 20), helpOf(-1, 0, -1, -1), helpOf(math.MaxInt, math.MinInt, math.MaxInt, math.MinInt)}
}

func checkThread(t *testing.T, name string, got impl.Thread, of impl.Thread, helps []impl.Help) {
	t.Helper()
	of.Stack = helps
	if !threadSame(got, of) {
		t.Fatalf("%s of %v = %v", name, of, got)
	}
}

func checkTop(t *testing.T, x impl.Thread) {
	t.Helper()
	want, some := impl.Help{}, len(x.Stack) > 0
	if some {
		want = x.Stack[len(x.Stack)-1]
	}
	if h, ok := impl.Top(x); h != want || ok != some {
		t.Fatalf("Top(%v) = %v, %v", x, h, ok)
	}
}

// checkHelps asks for each of Push, Top, Swap and Pop, and that one is what the others say.
func checkHelps(t *testing.T, x impl.Thread, h impl.Help) {
	t.Helper()
	n := len(x.Stack)
	below := slices.Clone(x.Stack[:max(n-1, 0)])
	pushed, swapped, popped := impl.Push(x, h), impl.Swap(x, h), impl.Pop(x)
	checkThread(t, "Push", pushed, x, append(slices.Clone(x.Stack), h))
	checkThread(t, "Pop", popped, x, below)
	checkThread(t, "Pop of Push", impl.Pop(pushed), x, x.Stack)
	if n == 0 {
		checkThread(t, "Swap of none", swapped, x, nil)
	} else {
		checkThread(t, "Swap", swapped, x, append(below, h))
		checkThread(t, "Push of Pop", impl.Push(popped, h), swapped, swapped.Stack)
	}
	for _, a := range []impl.Thread{x, pushed, swapped, popped} {
		checkTop(t, a)
	}
	if top, ok := impl.Top(pushed); top != h || !ok {
		t.Fatalf("Top of Push of %v to %v = %v, %v", h, x, top, ok)
	}
}

func TestPushTopSwapPop(t *testing.T) {
	for _, x := range someThreads() {
		for _, h := range strayHelps() {
			checkHelps(t, x, h)
		}
	}
}

// Nothing is refused for how many there are already.
func TestPushTopSwapPopOfMany(t *testing.T) {
	for n := range 100 {
		x := with(busy(), func(x *impl.Thread) { x.Stack = manyHelps(n) })
		checkHelps(t, x, helpOf(2, 77, 3, 4))
	}
}

func TestTopOfNone(t *testing.T) {
	for _, x := range []impl.Thread{{}, {Stack: []impl.Help{}}, {Stack: manyHelps(3)[:0]}, impl.ThreadNew(manyOps(2)), impl.Pop(impl.Thread{}), impl.Swap(impl.Thread{}, helpOf(1, 1, 1, 1))} {
		if h, ok := impl.Top(x); ok || h != (impl.Help{}) {
			t.Errorf("Top(%v) = %v, %v", x, h, ok)
		}
	}
}

// Who is pushed last is the first to be left; below it all stay as they were.
func TestHelpsAreLeftInTheirOrder(t *testing.T) {
	first, helps := busy(), manyHelps(30)
	x := first
	states := []impl.Thread{}
	for _, h := range helps {
		states = append(states, x)
		x = impl.Push(x, h)
	}
	for i, h := range slices.Backward(helps) {
		if top, ok := impl.Top(x); !ok || top != h {
			t.Fatalf("Top of %d = %v, %v, want %v", i, top, ok, h)
		}
		x = impl.Pop(impl.Swap(x, helpOf(9, 9, 9, 9)))
		if !threadSame(x, states[i]) {
			t.Fatalf("left %d: %v, want %v", i, x, states[i])
		}
	}
	if !threadSame(x, first) {
		t.Fatalf("in the end %v, want %v", x, first)
	}
}

// A crew is threads about their tries in one memory, as the machine has them go on.
type crew struct {
	mem     impl.Mem
	threads []impl.Thread
}

// step has a thread do one step: who is met while it is about its own try is pushed, while it helps, put in the place of who is helped.
func (c crew) step(i int) crew {
	x := c.threads[i]
	top, _ := impl.Top(x)
	got := assist(c.mem, top)
	switch {
	case got.how == impl.HpPop:
		x = impl.Pop(x)
	case got.how == impl.HpPush && len(x.Stack) == 1:
		x = impl.Push(x, got.other)
	case got.how == impl.HpPush:
		x = impl.Swap(x, got.other)
	default:
		x = impl.Swap(x, got.help)
	}
	threads := slices.Clone(c.threads)
	threads[i] = x
	return crew{mem: got.mem, threads: threads}
}

// newCrew has threads that have begun each its try.
func newCrew(t *testing.T, lists ...[]impl.Entry) crew {
	t.Helper()
	c := crew{mem: memOf(nil, make([]impl.Desc, len(lists))...)}
	for i, list := range lists {
		m, h, ok := impl.Begin(c.mem, i, list, impl.Res{})
		if !ok {
			t.Fatalf("Begin(%v, %d, %v)", c.mem, i, list)
		}
		x := impl.ThreadNew(manyOps(1))
		x.On = true
		c.mem, c.threads = m, append(c.threads, impl.Push(x, h))
	}
	return c
}

// checkCameBack asks that a thread that helped, or began to, is still about its own try, just where it was.
func checkCameBack(t *testing.T, before crew, after crew, i int) {
	t.Helper()
	x, y := before.threads[i], after.threads[i]
	checkThreadOk(t, y, len(after.threads), true)
	if len(y.Stack) > 0 && y.Stack[0].T != i {
		t.Fatalf("thread %d of %v is no more about its own try: %v", i, before, y)
	}
	if len(x.Stack)+len(y.Stack) > 2 && x.Stack[0] != y.Stack[0] {
		t.Fatalf("thread %d of %v helps, and its own try is not where it was: %v", i, before, y)
	}
	for j := range before.threads {
		if j != i && !threadSame(before.threads[j], after.threads[j]) {
			t.Fatalf("a step of %d in %v turns %d: %v", i, before, j, after)
		}
	}
}

func TestWhoHelpsComesBack(t *testing.T) {
	// The third one meets the second one's mark, and helping that, the first one's.
	c := newCrew(t, entriesOf(2, 52, 62, 3, 53, 63), entriesOf(1, 51, 71, 2, 62, 72), entriesOf(0, 50, 80, 1, 71, 81))
	for _, i := range []int{0, 1, 2} {
		c = c.step(i)
	}
	own, _ := impl.Top(c.threads[2])
	helped := []int{}
	for range 100 {
		h, ok := impl.Top(c.threads[2])
		if !ok {
			break
		}
		if h.T != 2 && h.At == 0 && h.Fin == 0 {
			helped = append(helped, h.T)
		}
		next := c.step(2)
		checkCameBack(t, c, next, 2)
		if len(c.threads[2].Stack) == 2 && len(next.threads[2].Stack) == 1 {
			if back, ok := impl.Top(next.threads[2]); !ok || back != own {
				t.Fatalf("it came back to %v, %v, not to %v", back, ok, own)
			}
		}
		c = next
	}
	words := memOf(laid{0: numOf(80), 1: numOf(81), 2: numOf(72), 3: numOf(63)}).Words
	if len(c.threads[2].Stack) != 0 || !slices.Equal(helped, []int{1, 0, 1}) || !slices.Equal(c.mem.Words, words) {
		t.Fatalf("it helped %v, in the end %v", helped, c)
	}
}

// crews goes through all orders in which threads can go on, each state once.
type crews struct {
	t    *testing.T
	seen map[string]bool
	ends int
	most int
}

func (o *crews) from(c crew) {
	o.t.Helper()
	state := fmt.Sprint(c)
	if o.seen[state] {
		return
	}
	o.seen[state] = true
	over := true
	for i, x := range c.threads {
		o.most = max(o.most, len(x.Stack))
		if _, ok := impl.Top(x); !ok {
			continue
		}
		over = false
		next := c.step(i)
		checkCameBack(o.t, c, next, i)
		o.from(next)
	}
	if over {
		o.ends++
		checkEnd(o.t, impl.Mem{Words: c.mem.Words, Descs: c.mem.Descs})
	}
}

func TestWhoHelpsComesBackInAllOrders(t *testing.T) {
	for _, lists := range [][][]impl.Entry{
		{entriesOf(2, 52, 62), entriesOf(1, 51, 71, 2, 52, 72)},
		{entriesOf(0, 50, 60, 1, 51, 61), entriesOf(0, 50, 70, 1, 51, 71)},
		{entriesOf(2, 52, 62), entriesOf(1, 51, 71, 2, 52, 72), entriesOf(1, 51, 81)},
	} {
		o := &crews{t: t, seen: map[string]bool{}}
		o.from(newCrew(t, lists...))
		if o.ends == 0 || o.most != 2 {
			t.Errorf("%v: %d ends, at most %d of Stack", lists, o.ends, o.most)
		}
	}
}

func roomyThread(x impl.Thread) impl.Thread {
	x.Ops, x.Got, x.Stack = roomy(x.Ops, opOf(91, 92, 93)), roomy(x.Got, impl.Pair{At: 94, N: 95}), roomy(x.Stack, helpOf(96, 97, 98, 99))
	return x
}

// threadText tells all that a thread has, with the spare room behind each list.
func threadText(x impl.Thread) string {
	return fmt.Sprint(x.Pc, x.On, len(x.Ops), x.Ops[:cap(x.Ops)], len(x.Got), x.Got[:cap(x.Got)], len(x.Stack), x.Stack[:cap(x.Stack)])
}

// fillThread writes into the whole of each list, the spare room too.
func fillThread(x impl.Thread) {
	for i := range x.Ops[:cap(x.Ops)] {
		x.Ops[:cap(x.Ops)][i] = opOf(81, 82, 83)
	}
	for i := range x.Got[:cap(x.Got)] {
		x.Got[:cap(x.Got)][i] = impl.Pair{At: 84, N: 85}
	}
	for i := range x.Stack[:cap(x.Stack)] {
		x.Stack[:cap(x.Stack)][i] = helpOf(86, 87, 88, 89)
	}
}

// checkOwn asks that a call writes into nothing that it is given, and that nothing of what it answers is what it was given.
func checkOwn(t *testing.T, name string, x impl.Thread, call func(impl.Thread) impl.Thread) {
	t.Helper()
	given := roomyThread(x)
	before := threadText(given)
	first, second := call(given), call(given)
	if after := threadText(given); after != before {
		t.Fatalf("%s: %s was written: %s", name, before, after)
	}
	want := threadText(first)
	fillThread(second)
	if after := threadText(given); after != before || threadText(first) != want {
		t.Fatalf("%s: what was written into an answer stands in %s or %s, which were %s and %s", name, after, threadText(first), before, want)
	}
	fillThread(given)
	if got := threadText(first); got != want {
		t.Fatalf("%s: what was written into what was given stands in the answer %s, which was %s", name, got, want)
	}
}

func TestThreadsShareNothing(t *testing.T) {
	h := helpOf(1, 2, 3, 4)
	for _, x := range someThreads() {
		checkOwn(t, "Push", x, func(x impl.Thread) impl.Thread { return impl.Push(x, h) })
		checkOwn(t, "Swap", x, func(x impl.Thread) impl.Thread { return impl.Swap(x, h) })
		checkOwn(t, "Pop", x, impl.Pop)
		checkOwn(t, "ThreadNew", x, func(x impl.Thread) impl.Thread { return impl.ThreadNew(x.Ops) })
	}
}

func TestThreadsAreNotWrittenInto(t *testing.T) {
	for _, x := range someThreads() {
		given := roomyThread(x)
		before := threadText(given)
		ok, done := impl.ThreadOk(given, 4), impl.ThreadDone(given)
		top, some := impl.Top(given)
		if after := threadText(given); after != before {
			t.Fatalf("%s was written: %s", before, after)
		}
		plain, has := impl.Top(x)
		if ok != impl.ThreadOk(x, 4) || done != impl.ThreadDone(x) || top != plain || some != has {
			t.Fatalf("what stands behind the lists of %v counts: %v, %v, %v, %v", x, ok, done, top, some)
		}
	}
}

// Who is left stands no more behind those that are still there.
func TestPopLeavesNothingBehind(t *testing.T) {
	for n := range 20 {
		x := impl.Pop(with(busy(), func(x *impl.Thread) { x.Stack = manyHelps(n) }))
		for _, h := range x.Stack[len(x.Stack):cap(x.Stack)] {
			if h != (impl.Help{}) {
				t.Fatalf("behind %v stands %v", x, h)
			}
		}
	}
}

// Nothing is kept: the same is answered of the same thread, whatever was asked meanwhile.
func TestThreadsAnswerTheSameAtEachCall(t *testing.T) {
	list := someThreads()
	for range 3 {
		for i, x := range list {
			checkHelps(t, x, helpOf(i%4, 1+i, 0, 0))
			checkThreadOk(t, x, i%5, threadTold(x, i%5))
		}
	}
}
