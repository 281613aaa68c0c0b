package tests

import (
	"fmt"
	"maps"
	"math"
	"runtime"
	"slices"
	"strings"
	"sync"
	"testing"
	"time"

	"loop.example/g00468/impl"
)

// Promise 9: each step is one word; what was told stays.

func callSame(a impl.Call, b impl.Call) bool {
	return a.T == b.T && a.Op == b.Op && a.Start == b.Start && a.Lin == b.Lin && a.End == b.End && a.Res.Code == b.Res.Code && slices.Equal(a.Res.List, b.Res.List)
}

func machineSame(a impl.Machine, b impl.Machine) bool {
	return memSame(a.Mem, b.Mem) && slices.EqualFunc(a.Threads, b.Threads, threadSame) && a.Time == b.Time &&
		slices.EqualFunc(a.Calls, b.Calls, callSame) && slices.Equal(a.Order, b.Order) && slices.Equal(a.First.Held, b.First.Held) && a.First.State == b.First.State
}

// apart has m with lists of its own, so that it can be turned.
func apart(m impl.Machine) impl.Machine {
	m.Mem.Words, m.Mem.Descs = slices.Clone(m.Mem.Words), slices.Clone(m.Mem.Descs)
	for i, d := range m.Mem.Descs {
		m.Mem.Descs[i].List, m.Mem.Descs[i].Res.List = slices.Clone(d.List), slices.Clone(d.Res.List)
	}
	m.Threads = slices.Clone(m.Threads)
	for i, x := range m.Threads {
		m.Threads[i].Ops, m.Threads[i].Got, m.Threads[i].Stack = slices.Clone(x.Ops), slices.Clone(x.Got), slices.Clone(x.Stack)
	}
	m.Calls, m.Order, m.First.Held = slices.Clone(m.Calls), slices.Clone(m.Order), slices.Clone(m.First.Held)
	for i, c := range m.Calls {
		m.Calls[i].Res.List = slices.Clone(c.Res.List)
	}
	return m
}

// turned has m turned, apart from m.
func turned(m impl.Machine, turn func(*impl.Machine)) impl.Machine {
	m = apart(m)
	turn(&m)
	return m
}

func openCallOf(thread int, o impl.Op, start int) impl.Call {
	return impl.Call{T: thread, Op: o, Start: start, Lin: -1, End: -1}
}

// fitting has a machine of these threads at the time 30, with calls that fit to them: each that was told was so at its own time, and the open ones come last. Only so many calls are made as a thread of 9 ops can have.
func fitting(mem impl.Mem, threads ...impl.Thread) impl.Machine {
	m := impl.Machine{Mem: mem, Threads: threads, Time: 30, First: impl.RowsNew()}
	for i, x := range threads {
		for j := range min(max(x.Pc, 0), len(x.Ops), 9) {
			n := len(m.Calls)
			m.Calls = append(m.Calls, impl.Call{T: i, Op: x.Ops[j], Start: n / 2, Lin: n / 2, End: n, Res: resOf(n%5, n)})
			m.Order = append(m.Order, n)
		}
	}
	for i, x := range threads {
		if x.On && x.Pc >= 0 && x.Pc < len(x.Ops) {
			m.Calls = append(m.Calls, openCallOf(i, x.Ops[x.Pc], 29))
		}
	}
	return apart(m)
}

// machineTold says by the document's words whether m is MachineOk.
func machineTold(m impl.Machine) bool {
	threads := len(m.Threads)
	if !memTold(m.Mem) || len(m.Mem.Descs) != threads || m.Time < 0 || m.Time > 100000 || len(m.Calls) > 40 {
		return false
	}
	for i, x := range m.Threads {
		if !threadTold(x, threads) || !taskTold(m, i) {
			return false
		}
	}
	for _, c := range m.Calls {
		if c.T < 0 || c.T >= threads || !impl.OpOk(c.Op) || c.Start < 0 || c.Start > m.Time {
			return false
		}
		for _, moment := range []int{c.Lin, c.End} {
			if moment != -1 && (moment < c.Start || moment > m.Time) {
				return false
			}
		}
	}
	return orderTold(m) && holdsOk(m.First.Held) && m.First.State >= 0 && m.First.State <= 5
}

// taskTold says whether thread i has just the calls that it can have.
func taskTold(m impl.Machine, i int) bool {
	x, last, told := m.Threads[i], -1, 0
	for n, c := range m.Calls {
		if c.T == i {
			last = n
		}
	}
	for n, c := range m.Calls {
		switch {
		case c.T != i:
		case c.End >= 0:
			told++
		case n != last || !x.On:
			return false
		}
	}
	if x.On && (last < 0 || m.Calls[last].End != -1 || m.Calls[last].Op != x.Ops[x.Pc]) {
		return false
	}
	return told == x.Pc
}

// orderTold says whether Order has just those that were so, each once, as they were so.
func orderTold(m impl.Machine) bool {
	so := []int{}
	for n, c := range m.Calls {
		if c.Lin >= 0 {
			so = append(so, n)
		}
	}
	if !slices.Equal(slices.Sorted(slices.Values(m.Order)), so) {
		return false
	}
	return slices.IsSortedFunc(m.Order, func(a int, b int) int { return m.Calls[a].Lin - m.Calls[b].Lin })
}

func checkMachineOk(t *testing.T, name string, m impl.Machine, want bool) {
	t.Helper()
	if ok := impl.MachineOk(m); ok != want || machineTold(m) != want {
		t.Fatalf("%s: MachineOk(%v) = %v, want %v (told: %v)", name, m, ok, want, machineTold(m))
	}
}

func TestMachineConstants(t *testing.T) {
	if impl.MaxTime != 100000 || impl.MaxCalls != 40 {
		t.Errorf("MaxTime %d, MaxCalls %d", impl.MaxTime, impl.MaxCalls)
	}
}

// idle has so many threads that have nothing to do.
func idle(n int) []impl.Thread {
	return make([]impl.Thread, n)
}

// midway has a machine of three threads, of which each is at something else: the first one is about its second op, the second one helps, and the third has told all.
func midway() impl.Machine {
	own := impl.Desc{Seq: 4, Status: impl.DcOpen, List: entriesOf(1, 51, 61, 6, 56, 66), Res: resOf(0)}
	mem := memOf(laid{1: markOf(1, 4)}, own, descOf(2, impl.DcNo, 3, 53, 63), impl.Desc{})
	return fitting(mem,
		impl.Thread{Ops: manyOps(3), Pc: 1, On: true, Got: manyPairs(2), Stack: []impl.Help{helpOf(0, 4, 1, 0)}},
		impl.Thread{Ops: manyOps(2), Pc: 0, On: true, Got: manyPairs(1), Stack: []impl.Help{helpOf(0, 4, 0, 0)}},
		impl.Thread{Ops: manyOps(2), Pc: 2},
	)
}

func TestMachineOkOfMems(t *testing.T) {
	for _, mem := range goodMems() {
		checkMachineOk(t, "a good Mem", fitting(mem, idle(len(mem.Descs))...), true)
	}
	for _, mem := range wrongMems() {
		checkMachineOk(t, "a wrong Mem", fitting(mem, idle(len(mem.Descs))...), false)
	}
}

func TestMachineOkOfHowManyThreads(t *testing.T) {
	for descs := range 7 {
		for threads := range 7 {
			m := fitting(memOf(nil, make([]impl.Desc, descs)...), idle(threads)...)
			checkMachineOk(t, fmt.Sprint(descs, " Descs and ", threads, " Threads"), m, descs == threads && descs >= 1 && descs <= 4)
		}
	}
	// One more, and one less, of what is at work.
	checkMachineOk(t, "midway", midway(), true)
	checkMachineOk(t, "one Desc more", turned(midway(), func(m *impl.Machine) { m.Mem.Descs = append(m.Mem.Descs, impl.Desc{}) }), false)
	checkMachineOk(t, "one Desc less", turned(midway(), func(m *impl.Machine) { m.Mem.Descs = m.Mem.Descs[:2] }), false)
	checkMachineOk(t, "one Thread more", turned(midway(), func(m *impl.Machine) { m.Threads = append(m.Threads, impl.Thread{}) }), false)
}

func TestMachineOkOfEachThread(t *testing.T) {
	good := 0
	for _, x := range someThreads() {
		for place := range 3 {
			threads := idle(3)
			threads[place] = x
			m := fitting(memOf(nil, impl.Desc{}, impl.Desc{}, impl.Desc{}), threads...)
			checkMachineOk(t, "a thread", m, threadTold(x, 3))
			if threadTold(x, 3) {
				good++
			}
		}
	}
	if good < 50 {
		t.Errorf("only %d machines are MachineOk", good)
	}
	// T of a Help is one of the threads that there are.
	for threads := 1; threads <= 4; threads++ {
		list := idle(threads)
		for _, who := range []int{-1, 0, 1, 2, 3, 4} {
			list[0] = impl.Thread{Ops: manyOps(1), On: true, Stack: []impl.Help{helpOf(who, 1, 0, 0)}}
			m := fitting(memOf(nil, make([]impl.Desc, threads)...), list...)
			checkMachineOk(t, fmt.Sprint("a Help of ", who, ", threads ", threads), m, who >= 0 && who < threads)
		}
	}
}

func TestMachineOkOfTime(t *testing.T) {
	m := fitting(memOf(nil, impl.Desc{}), impl.Thread{Ops: manyOps(2)})
	for _, n := range append(edges(), -1, 0, 99999, 100000, 100001) {
		m.Time = n
		checkMachineOk(t, fmt.Sprint("Time ", n), m, n >= 0 && n <= 100000)
	}
	// Nothing was told that is later than it is now.
	for n := range 40 {
		m := turned(midway(), func(m *impl.Machine) { m.Time = n })
		checkMachineOk(t, fmt.Sprint("Time ", n), m, n >= 29)
	}
}

// Four threads of 8 ops are all that there can be: more calls than 32 fit to no machine.
func TestMachineOkOfHowManyCalls(t *testing.T) {
	mem := memOf(nil, impl.Desc{}, impl.Desc{}, impl.Desc{}, impl.Desc{})
	for n := 0; n <= 8; n++ {
		x := impl.Thread{Ops: manyOps(8), Pc: n}
		m := fitting(mem, x, x, x, x)
		m.Time = 100
		checkMachineOk(t, fmt.Sprint(len(m.Calls), " calls"), m, true)
		if n < 8 {
			x.On = true
			m := fitting(mem, x, x, x, x)
			m.Time = 100
			checkMachineOk(t, fmt.Sprint(len(m.Calls), " calls"), m, true)
		}
	}
	full := fitting(mem, slices.Repeat([]impl.Thread{{Ops: manyOps(8), Pc: 8}}, 4)...)
	full.Time = 100
	for _, n := range []int{33, 39, 40, 41, 42, 64, 1000} {
		m := turned(full, func(m *impl.Machine) {
			for len(m.Calls) < n {
				m.Order = append(m.Order, len(m.Calls))
				m.Calls = append(m.Calls, impl.Call{T: 3, Op: manyOps(1)[0], Start: 100, Lin: 100, End: 100})
			}
		})
		checkMachineOk(t, fmt.Sprint(n, " calls"), m, false)
		// Also where as many are said to be told as were.
		m.Threads[3].Pc += n - 32
		checkMachineOk(t, fmt.Sprint(n, " calls"), m, false)
	}
}

// telling has a machine of three threads at the time 60 that has this call, beside others of the other threads; the thread whose it is has told it, or is at it.
func telling(c impl.Call) impl.Machine {
	x := impl.Thread{Ops: manyOps(2), Pc: 1, On: true}
	m := fitting(memOf(nil, impl.Desc{}, impl.Desc{}, impl.Desc{}), x, x, x)
	m.Time = 60
	if c.T < 0 || c.T > 2 {
		m.Calls = append(m.Calls, c)
		return m
	}
	// Its thread has this call alone, in the place of the first of its own, told or open.
	m.Threads[c.T] = impl.Thread{Ops: []impl.Op{c.Op}, Pc: 1}
	if c.End == -1 {
		m.Threads[c.T] = impl.Thread{Ops: []impl.Op{c.Op}, On: true}
	}
	m.Order = nil
	m.Calls = slices.DeleteFunc(m.Calls, func(other impl.Call) bool { return other.T == c.T })
	m.Calls = append(m.Calls, c)
	for n, other := range m.Calls {
		if other.Lin != -1 {
			m.Order = append(m.Order, n)
		}
	}
	slices.SortStableFunc(m.Order, func(a int, b int) int { return m.Calls[a].Lin - m.Calls[b].Lin })
	return m
}

func TestMachineOkOfWhoseCallItIs(t *testing.T) {
	o := opOf(impl.OpSet, 2, 5)
	for _, who := range append(edges(), -1, 0, 1, 2, 3) {
		told, open := impl.Call{T: who, Op: o, Start: 3, Lin: 4, End: 5}, openCallOf(who, o, 3)
		checkMachineOk(t, fmt.Sprint("a call told of ", who), telling(told), who >= 0 && who <= 2)
		checkMachineOk(t, fmt.Sprint("an open call of ", who), telling(open), who >= 0 && who <= 2)
	}
}

func TestMachineOkOfWhatWasCalled(t *testing.T) {
	for _, o := range append(everyOp(), wrongOps()...) {
		m := telling(impl.Call{T: 1, Op: o, Start: 3, Lin: 4, End: 5})
		checkMachineOk(t, fmt.Sprint("a call of ", o), m, impl.OpOk(o))
		// What was told need not be what the thread was to do then.
		m.Threads[1].Ops = manyOps(1)
		checkMachineOk(t, fmt.Sprint("a call of ", o), m, impl.OpOk(o))
		checkMachineOk(t, fmt.Sprint("an open call of ", o), telling(openCallOf(1, o, 3)), impl.OpOk(o))
	}
	// Anything may have come of it.
	for _, s := range []impl.Res{{}, resOf(-7), resOf(math.MaxInt, math.MinInt), {List: make([]int, 1000)}} {
		checkMachineOk(t, "any Res", telling(impl.Call{T: 1, Op: manyOps(1)[0], Start: 3, Lin: 4, End: 5, Res: s}), true)
	}
}

func TestMachineOkOfTheTimesOfACall(t *testing.T) {
	o := manyOps(1)[0]
	for _, n := range append(edges(), -2, -1, 0, 29, 30, 31, 39, 40, 41, 59, 60, 61) {
		checkMachineOk(t, fmt.Sprint("open, Start ", n), telling(openCallOf(1, o, n)), n >= 0 && n <= 60)
		checkMachineOk(t, fmt.Sprint("told at 60, Start ", n), telling(impl.Call{T: 1, Op: o, Start: n, Lin: 60, End: 60}), n >= 0 && n <= 60)
		checkMachineOk(t, fmt.Sprint("told at 40, Start ", n), telling(impl.Call{T: 1, Op: o, Start: n, Lin: 60, End: 40}), n >= 0 && n <= 40)
		checkMachineOk(t, fmt.Sprint("so at 40, Start ", n), telling(impl.Call{T: 1, Op: o, Start: n, Lin: 40, End: 60}), n >= 0 && n <= 40)
		within := n == -1 || n >= 40 && n <= 60
		checkMachineOk(t, fmt.Sprint("open, Lin ", n), telling(impl.Call{T: 1, Op: o, Start: 40, Lin: n, End: -1}), within)
		checkMachineOk(t, fmt.Sprint("told, Lin ", n), telling(impl.Call{T: 1, Op: o, Start: 40, Lin: n, End: 50}), within)
		checkMachineOk(t, fmt.Sprint("not so, End ", n), telling(impl.Call{T: 1, Op: o, Start: 40, Lin: -1, End: n}), within)
		checkMachineOk(t, fmt.Sprint("so at 50, End ", n), telling(impl.Call{T: 1, Op: o, Start: 40, Lin: 50, End: n}), within)
		// A Lin below 0 is not in Order: it is refused for itself.
		m := telling(impl.Call{T: 1, Op: o, Start: 0, Lin: n, End: 50})
		m.Order = slices.DeleteFunc(m.Order, func(i int) bool { return m.Calls[i].Lin < 0 })
		checkMachineOk(t, fmt.Sprint("Lin ", n), m, n >= -1 && n <= 60)
	}
}

// ordered has a machine of six calls, of two threads, that were so at these times.
func ordered(times [6]int, order ...int) impl.Machine {
	x := impl.Thread{Ops: manyOps(3), Pc: 2, On: true}
	m := fitting(memOf(nil, impl.Desc{}, impl.Desc{}), x, x)
	for n, moment := range times {
		m.Calls[n].Start, m.Calls[n].Lin = 0, moment
	}
	m.Order = order
	return m
}

func TestMachineOkOfOrder(t *testing.T) {
	times := [6]int{5, 3, -1, 7, 5, -1}
	for _, c := range []struct {
		name  string
		order []int
		want  bool
	}{
		{"as they were so", []int{1, 0, 4, 3}, true},
		{"two at one time, the other way round", []int{1, 4, 0, 3}, true},
		{"Lin goes down", []int{0, 1, 4, 3}, false},
		{"Lin goes down at the end", []int{1, 0, 3, 4}, false},
		{"all the other way round", []int{3, 4, 0, 1}, false},
		{"none", nil, false},
		{"the first one is not in it", []int{0, 4, 3}, false},
		{"the last one is not in it", []int{1, 0, 4}, false},
		{"one twice", []int{1, 0, 4, 3, 3}, false},
		{"one twice, another one not in it", []int{1, 0, 0, 3}, false},
		{"one twice at the start", []int{1, 1, 0, 4, 3}, false},
		{"all twice", []int{1, 0, 4, 3, 1, 0, 4, 3}, false},
		{"one that was not so", []int{2, 1, 0, 4, 3}, false},
		{"one that was not so, at the end", []int{1, 0, 4, 3, 5}, false},
		{"one that was not so in another one's place", []int{2, 0, 4, 3}, false},
		{"-1", []int{-1, 1, 0, 4, 3}, false},
		{"-1 in another one's place", []int{-1, 0, 4, 3}, false},
		{"one beyond", []int{1, 0, 4, 3, 6}, false},
		{"one beyond in another one's place", []int{1, 0, 4, 6}, false},
		{"far off", []int{math.MinInt, 1, 0, 4, math.MaxInt}, false},
		{"far off and near", []int{1<<32 + 1, 256, 4, 3}, false},
		{"very many", slices.Repeat([]int{1}, 1000), false},
	} {
		checkMachineOk(t, c.name, ordered(times, c.order...), c.want)
	}
	checkMachineOk(t, "nothing was so", ordered([6]int{-1, -1, -1, -1, -1, -1}), true)
	checkMachineOk(t, "all at once", ordered([6]int{0, 0, 0, 0, 0, 0}, 4, 2, 0, 1, 5, 3), true)
	checkMachineOk(t, "all at once, one is not in it", ordered([6]int{0, 0, 0, 0, 0, 0}, 4, 2, 0, 1, 5), false)
	// What stands in the spare room is no number of it.
	checkMachineOk(t, "behind it", ordered(times, []int{1, 0, 4, 3, 9}[:4]...), true)
	checkMachineOk(t, "one is behind it", ordered(times, []int{1, 0, 4, 3}[:3]...), false)
}

func TestMachineOkOfEachOrder(t *testing.T) {
	for a := -1; a <= 6; a++ {
		for b := -1; b <= 6; b++ {
			for c := -1; c <= 6; c++ {
				for _, times := range [][6]int{{-1, 4, 9, -1, 4, -1}, {4, -1, -1, 4, -1, 4}, {9, 4, -1, 0, -1, -1}} {
					m := ordered(times, a, b, c)
					checkMachineOk(t, "order", m, machineTold(m))
				}
			}
		}
	}
}

func TestMachineOkOfFirst(t *testing.T) {
	for _, r := range wrongRows() {
		checkMachineOk(t, "wrong First", turned(midway(), func(m *impl.Machine) { m.First = r }), false)
	}
	for i, r := range everyRows() {
		if i%7 == 0 {
			checkMachineOk(t, "First", turned(midway(), func(m *impl.Machine) { m.First = r }), true)
		}
	}
}

func TestMachineOkOfWhoIsAtWhat(t *testing.T) {
	// Of midway the calls 0, 1, 2 were told, of the threads 0, 2, 2; the calls 3, 4 are open, of the threads 0, 1.
	for _, c := range []struct {
		name string
		turn func(m *impl.Machine)
		want bool
	}{
		{"as it is", func(m *impl.Machine) {}, true},
		{"another op of who is On", func(m *impl.Machine) { m.Calls[3].Op = opOf(impl.OpGet, 1, 0) }, false},
		{"the op that it did before", func(m *impl.Machine) { m.Calls[3].Op = m.Threads[0].Ops[0] }, false},
		{"the op behind it", func(m *impl.Machine) { m.Calls[3].Op = m.Threads[0].Ops[2] }, false},
		{"another V of the op", func(m *impl.Machine) { m.Calls[4].Op.V = 5 }, false},
		{"another K of the op", func(m *impl.Machine) { m.Calls[4].Op.K = 2 }, false},
		{"an End of who is On", func(m *impl.Machine) { m.Calls[3].End = 30 }, false},
		{"an End of who is On, and Pc one more", func(m *impl.Machine) { m.Calls[3].End, m.Threads[0].Pc = 30, 2 }, false},
		{"it was so already", func(m *impl.Machine) { m.Calls[3].Lin, m.Order = 30, append(m.Order, 3) }, true},
		{"no call of who is On", func(m *impl.Machine) { m.Calls = m.Calls[:4] }, false},
		{"only calls that were told of who is On", func(m *impl.Machine) { m.Calls = slices.Delete(m.Calls, 3, 4) }, false},
		{"not On, with an open call", func(m *impl.Machine) { m.Threads[1] = impl.Thread{Ops: manyOps(2)} }, false},
		{"not On, with an open call behind such as were told", func(m *impl.Machine) { m.Threads[0] = impl.Thread{Ops: manyOps(3), Pc: 1} }, false},
		{"not On, with an open call ahead of such as were told", func(m *impl.Machine) { m.Calls[4].T, m.Threads[1] = 2, impl.Thread{} }, false},
		{"not On, its call was told, Pc as it was", func(m *impl.Machine) { m.Calls[4].End, m.Threads[1] = 30, impl.Thread{Ops: manyOps(2)} }, false},
		{"not On, its call was told", func(m *impl.Machine) { m.Calls[4].End, m.Threads[1] = 30, impl.Thread{Ops: manyOps(2), Pc: 1} }, true},
		{"a call ahead of the last one is open", func(m *impl.Machine) { m.Calls[0].End = -1 }, false},
		{"a call ahead of the last one is open, Pc one less", func(m *impl.Machine) {
			m.Calls[0].End, m.Threads[0].Pc, m.Calls[3].Op = -1, 0, m.Threads[0].Ops[0]
		}, false},
		{"the open call stands ahead of the one that was told", func(m *impl.Machine) {
			m.Calls[0], m.Calls[3], m.Order = m.Calls[3], m.Calls[0], []int{3, 1, 2}
		}, false},
		{"Pc one more, On", func(m *impl.Machine) { m.Threads[0].Pc, m.Calls[3].Op = 2, m.Threads[0].Ops[2] }, false},
		{"Pc one less, On", func(m *impl.Machine) { m.Threads[0].Pc, m.Calls[3].Op = 0, m.Threads[0].Ops[0] }, false},
		{"Pc one less, not On", func(m *impl.Machine) { m.Threads[2].Pc = 1 }, false},
		{"Pc one more, not On", func(m *impl.Machine) { m.Threads[2].Ops, m.Threads[2].Pc = manyOps(4), 3 }, false},
		{"more to do, not On", func(m *impl.Machine) { m.Threads[2].Ops = manyOps(4) }, true},
		{"a call is told of another thread", func(m *impl.Machine) { m.Calls[1].T = 0 }, false},
		{"a call is told of another thread, and both Pc", func(m *impl.Machine) {
			m.Calls[1].T, m.Threads[0].Pc, m.Threads[2].Pc, m.Calls[3].Op = 0, 2, 1, m.Threads[0].Ops[2]
		}, true},
		{"calls do not stand by their Start", func(m *impl.Machine) {
			m.Calls[0].Start, m.Calls[0].Lin, m.Calls[0].End, m.Order = 30, 30, 30, []int{1, 2, 0}
		}, true},
		{"one was told, but was not so", func(m *impl.Machine) { m.Calls[1].Lin, m.Order = -1, []int{0, 2} }, true},
	} {
		checkMachineOk(t, c.name, turned(midway(), c.turn), c.want)
	}
}

// turns has what can be turned in a machine, into what it can be and cannot be.
func turns() []func(*impl.Machine) {
	list := []func(*impl.Machine){}
	add := func(of func(m *impl.Machine) *int) {
		for _, n := range []int{math.MinInt, -2, -1, 0, 1, 2, 3, 4, 5, 8, 29, 30, 31, math.MaxInt} {
			list = append(list, func(m *impl.Machine) { *of(m) = n })
		}
	}
	for i := range 3 {
		add(func(m *impl.Machine) *int { return &m.Threads[i].Pc })
		list = append(list, func(m *impl.Machine) { m.Threads[i].On = !m.Threads[i].On })
		list = append(list, func(m *impl.Machine) { m.Threads[i].Ops = m.Threads[i].Ops[:1] })
		list = append(list, func(m *impl.Machine) { m.Threads[i].Stack, m.Threads[i].Got = nil, nil })
		add(func(m *impl.Machine) *int { return &m.Order[i] })
	}
	for i := range 5 {
		add(func(m *impl.Machine) *int { return &m.Calls[i].T })
		add(func(m *impl.Machine) *int { return &m.Calls[i].Op.Kind })
		add(func(m *impl.Machine) *int { return &m.Calls[i].Start })
		add(func(m *impl.Machine) *int { return &m.Calls[i].Lin })
		add(func(m *impl.Machine) *int { return &m.Calls[i].End })
		list = append(list, func(m *impl.Machine) { m.Calls[i].End, m.Threads[i%3].On = 30, false })
		list = append(list, func(m *impl.Machine) {
			m.Calls = slices.Delete(m.Calls, min(i, len(m.Calls)-1), min(i+1, len(m.Calls)))
		})
	}
	add(func(m *impl.Machine) *int { return &m.Time })
	add(func(m *impl.Machine) *int { return &m.First.State })
	add(func(m *impl.Machine) *int { return &m.Mem.Words[1].T })
	add(func(m *impl.Machine) *int { return &m.Mem.Descs[0].Seq })
	return list
}

func TestMachineOkOfAllThatIsTurned(t *testing.T) {
	list, good := turns(), 0
	for i, turn := range list {
		once := turned(midway(), turn)
		checkMachineOk(t, "once", once, machineTold(once))
		if len(once.Calls) < 5 {
			continue
		}
		// Two that are wrong together may fit.
		for _, again := range list[:i] {
			twice := turned(once, again)
			checkMachineOk(t, "twice", twice, machineTold(twice))
			if machineTold(twice) {
				good++
			}
		}
	}
	if good < 1000 {
		t.Errorf("only %d machines are MachineOk", good)
	}
}

func checkMachineNew(t *testing.T, r impl.Rows, list [][]impl.Op, want bool) {
	t.Helper()
	m, ok := impl.MachineNew(r, list)
	if ok != want {
		t.Fatalf("MachineNew(%v, %v) = %v, %v", r, list, m, ok)
	}
	if !ok {
		if !machineSame(m, impl.Machine{}) {
			t.Fatalf("MachineNew(%v, %v) = %v beside false", r, list, m)
		}
		return
	}
	words := []impl.Word{}
	for _, n := range wordsTold(r.Held, r.State) {
		words = append(words, numOf(n))
	}
	told := impl.Machine{Mem: impl.Mem{Words: words, Descs: make([]impl.Desc, len(list))}, First: r}
	for _, ops := range list {
		told.Threads = append(told.Threads, impl.Thread{Ops: ops})
	}
	if !machineSame(m, told) {
		t.Fatalf("MachineNew(%v, %v) = %v, want %v", r, list, m, told)
	}
	checkMachineOk(t, "new", m, true)
}

func TestMachineNewOfHowManyLists(t *testing.T) {
	r := rowsOf(3, 5, 0, 2, 0)
	checkMachineNew(t, r, nil, false)
	checkMachineNew(t, r, [][]impl.Op{}, false)
	for n := range 30 {
		checkMachineNew(t, r, slices.Repeat([][]impl.Op{manyOps(2)}, n), n >= 1 && n <= 4)
		checkMachineNew(t, r, make([][]impl.Op, n), n >= 1 && n <= 4)
	}
	// What stands in the spare room is no thread's.
	checkMachineNew(t, r, [][]impl.Op{manyOps(1), wrongOps()}[:1], true)
	checkMachineNew(t, r, [][]impl.Op{manyOps(1)}[:0], false)
}

func TestMachineNewOfHowManyOps(t *testing.T) {
	for n := range 30 {
		for place := range 4 {
			list := [][]impl.Op{manyOps(1), {}, manyOps(8), manyOps(3)}
			list[place] = manyOps(n)
			checkMachineNew(t, impl.RowsNew(), list, n <= 8)
		}
	}
}

func TestMachineNewOfEachOp(t *testing.T) {
	for _, o := range append(everyOp(), wrongOps()...) {
		for place := range 8 {
			list := [][]impl.Op{manyOps(8), manyOps(8)}
			list[place%2][place] = o
			checkMachineNew(t, impl.RowsNew(), list, impl.OpOk(o))
		}
	}
}

func TestMachineNewOfRows(t *testing.T) {
	for i, r := range everyRows() {
		checkMachineNew(t, r, slices.Repeat([][]impl.Op{manyOps(i % 9)}, 1+i%4), true)
	}
	for _, r := range wrongRows() {
		for n := range 6 {
			checkMachineNew(t, r, slices.Repeat([][]impl.Op{manyOps(1)}, n), false)
		}
	}
}

// stepTold answers one step by the document's words.
func stepTold(m impl.Machine, who int) (impl.Machine, bool) {
	if !machineTold(m) || who < 0 || who >= len(m.Threads) || m.Threads[who].Pc == len(m.Threads[who].Ops) || m.Time == 100000 {
		return m, false
	}
	next := apart(m)
	next.Time++
	x := &next.Threads[who]
	switch {
	case !x.On:
		next.Calls = append(next.Calls, openCallOf(who, x.Ops[x.Pc], next.Time))
		x.On = true
	case len(x.Stack) > 0:
		helpTold(&next, who)
	default:
		lookTold(&next, who)
	}
	if !machineTold(next) {
		return m, false
	}
	return apart(next), true
}

func helpTold(m *impl.Machine, who int) {
	x := &m.Threads[who]
	last := len(x.Stack) - 1
	about := x.Stack[last]
	got := assistTold(m.Mem, about)
	m.Mem = got.mem
	switch got.how {
	case 0:
		x.Stack[last] = got.help
	case 1:
		if about.T == who && last == 0 {
			x.Stack = append(x.Stack, got.other)
		} else {
			x.Stack[last] = got.other
		}
	case 2:
		x.Stack = x.Stack[:last]
		if about.T == who {
			x.Stack = nil
			if d := m.Mem.Descs[who]; d.Status == 2 {
				endTold(m, who, d.Res)
			} else {
				x.Got = nil
			}
		}
	case 3:
		soTold(m, about.T, m.Mem.Descs[about.T].Res)
	}
}

func lookTold(m *impl.Machine, who int) {
	x := &m.Threads[who]
	o := x.Ops[x.Pc]
	if place := impl.Next(o, x.Got); place != -1 {
		w := m.Mem.Words[place]
		if w.T != 0 {
			x.Stack = []impl.Help{helpOf(w.T-1, w.Seq, 0, 0)}
			return
		}
		x.Got = append(x.Got, impl.Pair{At: place, N: w.N})
	}
	p, there := impl.PlanOf(o, x.Got)
	switch {
	case there && p.Now:
		soTold(m, who, p.Res)
		endTold(m, who, p.Res)
	case there:
		got := beginTold(m.Mem, who, p.List, p.Res)
		m.Mem, x.Stack = got.mem, []impl.Help{got.help}
	}
}

// openNumber has the number of the call that who is at; -1 where it is at none.
func openNumber(m *impl.Machine, who int) int {
	return slices.IndexFunc(m.Calls, func(c impl.Call) bool { return c.T == who && c.End == -1 })
}

func soTold(m *impl.Machine, who int, s impl.Res) {
	if n := openNumber(m, who); n >= 0 {
		m.Calls[n].Lin, m.Calls[n].Res, m.Order = m.Time, s, append(m.Order, n)
	}
}

func endTold(m *impl.Machine, who int, s impl.Res) {
	n := openNumber(m, who)
	m.Calls[n].End, m.Calls[n].Res = m.Time, s
	x := &m.Threads[who]
	x.Pc, x.On, x.Got = x.Pc+1, false, nil
}

// checkMove asks that a step of who is as the document's words say, and that it turns nothing that must stay.
func checkMove(t *testing.T, m impl.Machine, who int) (impl.Machine, bool) {
	t.Helper()
	got, went := impl.Step(m, who)
	want, may := stepTold(m, who)
	if went != may || !machineSame(got, want) {
		t.Fatalf("Step(%v, %d) = %v, %v, want %v, %v", m, who, got, went, want, may)
	}
	if went {
		checkOneWord(t, m, got, who)
		checkToldStays(t, m, got)
	}
	return got, went
}

// checkOneWord asks that a step of who is one word at most, or how one try is, and that no other thread is turned.
func checkOneWord(t *testing.T, m impl.Machine, then impl.Machine, who int) {
	t.Helper()
	words := 0
	for place, w := range m.Mem.Words {
		if then.Mem.Words[place] != w {
			words++
		}
	}
	descs := 0
	for i, d := range m.Mem.Descs {
		if !descSame(d, then.Mem.Descs[i]) {
			descs++
		}
	}
	if words+descs > 1 || then.Time != m.Time+1 || !impl.MachineOk(then) {
		t.Fatalf("a step of %d in %v turns %d words and %d Descs: %v", who, m, words, descs, then)
	}
	for i, x := range m.Threads {
		if i != who && !threadSame(x, then.Threads[i]) {
			t.Fatalf("a step of %d in %v turns thread %d: %v", who, m, i, then)
		}
	}
	if !slices.Equal(m.Threads[who].Ops, then.Threads[who].Ops) {
		t.Fatalf("a step of %d in %v turns what it is to do: %v", who, m, then)
	}
}

// checkToldStays asks that what was told stays: each call that had an End, the numbers of Order, when a call began and when it was so, and the rows at first.
func checkToldStays(t *testing.T, m impl.Machine, then impl.Machine) {
	t.Helper()
	if len(then.Calls) < len(m.Calls) || len(then.Order) < len(m.Order) || !slices.Equal(then.Order[:len(m.Order)], m.Order) {
		t.Fatalf("of %v is told no more: %v", m, then)
	}
	for n, c := range m.Calls {
		now := then.Calls[n]
		if c.End >= 0 && !callSame(c, now) || c.T != now.T || c.Op != now.Op || c.Start != now.Start || c.Lin >= 0 && c.Lin != now.Lin {
			t.Fatalf("call %d of %v does not stay: %v", n, m, then)
		}
	}
	if !slices.Equal(m.First.Held, then.First.Held) || m.First.State != then.First.State {
		t.Fatalf("what was at first in %v does not stay: %v", m, then)
	}
}

// moveCase is a step of the first thread, and what it turns beside the time.
type moveCase struct {
	name string
	m    impl.Machine
	turn func(m *impl.Machine)
}

func checkMoves(t *testing.T, cases []moveCase) {
	t.Helper()
	for _, c := range cases {
		checkMachineOk(t, c.name, c.m, true)
		want := turned(c.m, func(m *impl.Machine) { m.Time++ })
		c.turn(&want)
		got, went := checkMove(t, c.m, 0)
		if !went || !machineSame(got, want) {
			t.Errorf("%s: Step(%v, 0) = %v, %v, want %v", c.name, c.m, got, went, want)
		}
	}
}

// atWork has a machine of three threads: the first one is at this op, of which it has read this and helps these; the second one is at an op too, the third one has nothing to do.
func atWork(mem impl.Mem, o impl.Op, got []impl.Pair, helps ...impl.Help) impl.Machine {
	return fitting(mem,
		impl.Thread{Ops: []impl.Op{{Kind: impl.OpScan}, o, {Kind: impl.OpOpen}}, Pc: 1, On: true, Got: got, Stack: helps},
		impl.Thread{Ops: manyOps(1), On: true, Got: manyPairs(1)},
		impl.Thread{},
	)
}

// Of atWork call 0 was told, of thread 0; the calls 1 and 2 are open, of the threads 0 and 1.
const ownCall, othersCall = 1, 2

// endsNow turns a machine of atWork into what it is when the first thread's call ends.
func endsNow(m *impl.Machine, s impl.Res) {
	m.Calls[ownCall].End, m.Calls[ownCall].Res = m.Time, s
	m.Threads[0].Pc, m.Threads[0].On, m.Threads[0].Got, m.Threads[0].Stack = 2, false, nil, nil
}

func isSoNow(m *impl.Machine, n int, s impl.Res) {
	m.Calls[n].Lin, m.Calls[n].Res, m.Order = m.Time, s, append(m.Order, n)
}

func TestStepBegins(t *testing.T) {
	mem := memOf(laid{3: markOf(2, 5)}, impl.Desc{}, descOf(5, impl.DcOpen, 3, 53, 63), impl.Desc{})
	other := impl.Thread{Ops: manyOps(2), Pc: 1, On: true}
	begins := func(n int) func(*impl.Machine) {
		return func(m *impl.Machine) {
			m.Calls = append(m.Calls, openCallOf(0, manyOps(3)[n], 31))
			m.Threads[0].On = true
		}
	}
	for pc := range 3 {
		m := fitting(mem, impl.Thread{Ops: manyOps(3), Pc: pc}, other, other)
		checkMoves(t, []moveCase{{fmt.Sprint("begins, Pc ", pc), m, begins(pc)}})
	}
}

func TestStepReads(t *testing.T) {
	none := []impl.Desc{{}, {}, {}}
	put, set := opOf(impl.OpPut, 1, 3), opOf(impl.OpSet, 1, 3)
	reads := func(told ...int) func(*impl.Machine) {
		return func(m *impl.Machine) { m.Threads[0].Got = pairsOf(told...) }
	}
	meets := func(h impl.Help) func(*impl.Machine) {
		return func(m *impl.Machine) { m.Threads[0].Stack = []impl.Help{h} }
	}
	now := func(s impl.Res) func(*impl.Machine) {
		return func(m *impl.Machine) {
			isSoNow(m, ownCall, s)
			endsNow(m, s)
		}
	}
	full := manyPairs(12)
	for i := range full {
		full[i].At = 19
	}
	marks := []impl.Desc{descOf(8, impl.DcYes, 2, 52, 62), descOf(5, impl.DcOpen, 1, 51, 61), descOf(1000000, impl.DcNo, 6, 56, 66)}
	checkMoves(t, []moveCase{
		{"the first word", atWork(memOf(laid{1: numOf(0)}, none...), put, nil), reads(1, 0)},
		{"the next word", atWork(memOf(laid{6: numOf(0)}, none...), put, pairsOf(1, 0)), reads(1, 0, 6, 0)},
		{"behind what was read that it needs not", atWork(memOf(laid{6: numOf(0)}, none...), put, pairsOf(9, 9, 1, 0)), reads(9, 9, 1, 0, 6, 0)},
		{"the greatest number", atWork(memOf(laid{1: numOf(1000)}, none...), opOf(impl.OpDel, 1, 0), nil), func(m *impl.Machine) {
			m.Threads[0].Got = pairsOf(1, 1000)
			m.Threads[0].Stack = []impl.Help{helpOf(0, 1, 0, 0)}
			m.Mem.Descs[0] = descOf(1, impl.DcOpen, 1, 1000, 0)
		}},
		{"another one's mark", atWork(memOf(laid{1: markOf(2, 5)}, marks...), put, nil), meets(helpOf(1, 5, 0, 0))},
		{"another one's mark later on", atWork(memOf(laid{6: markOf(3, 1000000)}, marks...), put, pairsOf(1, 0)), meets(helpOf(2, 1000000, 0, 0))},
		{"its own mark", atWork(memOf(laid{2: markOf(1, 8)}, marks...), opOf(impl.OpGet, 2, 0), nil), meets(helpOf(0, 8, 0, 0))},
		{"a mark elsewhere", atWork(memOf(laid{1: numOf(0), 6: markOf(3, 1000000)}, marks...), put, nil), reads(1, 0)},
		{"there at once", atWork(memOf(nil, none...), put, nil), now(resOf(impl.RsThere))},
		{"there at once, by the second word", atWork(memOf(nil, none...), put, pairsOf(1, 0)), now(resOf(impl.RsTaken))},
		{"there at once, done", atWork(memOf(laid{1: numOf(3)}, none...), set, nil), now(resOf(impl.RsDone))},
		{"there at once, with a list", atWork(memOf(nil, none...), opOf(impl.OpGet, 2, 0), nil), now(resOf(impl.RsDone, 52))},
		{"there at once, where a mark of its own is left", atWork(memOf(laid{2: markOf(1, 8)}, marks...), opOf(impl.OpGet, 3, 0), nil), now(resOf(impl.RsDone, 53))},
		{"there at once, when as much was read as can be", atWork(memOf(nil, none...), opOf(impl.OpGet, 2, 0), full), now(resOf(impl.RsDone, 52))},
		{"there at once, without a word to read", atWork(memOf(nil, none...), put, pairsOf(1, 7)), now(resOf(impl.RsThere))},
	})
}

func TestStepBeginsATry(t *testing.T) {
	put := opOf(impl.OpPut, 1, 3)
	before := impl.Desc{Seq: 8, Status: impl.DcYes, List: entriesOf(2, 52, 62), Res: resOf(3, 4)}
	words := laid{10: numOf(2), 13: numOf(1)}
	tries := func(d impl.Desc, told ...int) func(*impl.Machine) {
		return func(m *impl.Machine) {
			m.Mem.Descs[0] = d
			m.Threads[0].Got = pairsOf(told...)
			m.Threads[0].Stack = []impl.Help{helpOf(0, d.Seq, 0, 0)}
		}
	}
	list := entriesOf(1, 0, 3, 6, 0, 2, 10, 2, 3, 13, 1, 1)
	scanned := impl.Desc{Seq: 1, Status: impl.DcOpen, List: entriesOf(0, 50, 50, 1, 51, 51, 2, 52, 52, 3, 53, 53), Res: resOf(0, 50, 51, 52, 53)}
	checkMoves(t, []moveCase{
		{"the first try", atWork(memOf(words, impl.Desc{}, before, impl.Desc{}), put, pairsOf(1, 0, 6, 0, 10, 2)), tries(impl.Desc{Seq: 1, Status: impl.DcOpen, List: list}, 1, 0, 6, 0, 10, 2, 13, 1)},
		{"one more", atWork(memOf(words, before, before, impl.Desc{}), put, pairsOf(1, 0, 6, 0, 10, 2)), tries(impl.Desc{Seq: 9, Status: impl.DcOpen, List: list}, 1, 0, 6, 0, 10, 2, 13, 1)},
		{"the last one", atWork(memOf(words, descOf(999999, impl.DcNo), before, impl.Desc{}), put, pairsOf(1, 0, 6, 0, 10, 2)), tries(impl.Desc{Seq: 1000000, Status: impl.DcOpen, List: list}, 1, 0, 6, 0, 10, 2, 13, 1)},
		{"without a word to read", atWork(memOf(nil, before, before, impl.Desc{}), put, pairsOf(1, 0, 6, 0, 10, 2, 13, 1)), tries(impl.Desc{Seq: 9, Status: impl.DcOpen, List: list}, 1, 0, 6, 0, 10, 2, 13, 1)},
		{"with a Res", atWork(memOf(nil, impl.Desc{}, impl.Desc{}, impl.Desc{}), opOf(impl.OpScan, 0, 0), pairsOf(0, 50, 1, 51, 2, 52)), tries(scanned, 0, 50, 1, 51, 2, 52, 3, 53)},
		{"another one's mark is left", atWork(memOf(laid{2: markOf(2, 8), 10: numOf(2), 13: numOf(1)}, impl.Desc{}, before, impl.Desc{}), put, pairsOf(1, 0, 6, 0, 10, 2)), tries(impl.Desc{Seq: 1, Status: impl.DcOpen, List: list}, 1, 0, 6, 0, 10, 2, 13, 1)},
	})
}

func stacks(helps ...impl.Help) func(*impl.Machine) {
	return func(m *impl.Machine) { m.Threads[0].Stack = helps }
}

func TestStepHelpsOn(t *testing.T) {
	o, got := manyOps(1)[0], manyPairs(3)
	own, other := descOf(4, impl.DcOpen, 1, 51, 61, 6, 56, 66), descOf(7, impl.DcYes, 2, 52, 62, 3, 53, 63)
	marked := laid{1: markOf(1, 4), 2: markOf(2, 7), 3: markOf(2, 7)}
	lays := func(place int, w impl.Word, helps ...impl.Help) func(*impl.Machine) {
		return func(m *impl.Machine) {
			m.Mem.Words[place] = w
			m.Threads[0].Stack = helps
		}
	}
	checkMoves(t, []moveCase{
		{"its own mark is laid", atWork(memOf(nil, own, other, impl.Desc{}), o, got, helpOf(0, 4, 0, 0)), lays(1, markOf(1, 4), helpOf(0, 4, 1, 0))},
		{"its own mark lies already", atWork(memOf(marked, own, other, impl.Desc{}), o, got, helpOf(0, 4, 0, 0)), stacks(helpOf(0, 4, 1, 0))},
		{"another one's mark goes", atWork(memOf(marked, own, other, impl.Desc{}), o, got, helpOf(1, 7, 0, 0)), lays(2, numOf(62), helpOf(1, 7, 0, 1))},
		{"another one's mark goes, its own try waits", atWork(memOf(marked, own, other, impl.Desc{}), o, got, helpOf(0, 4, 1, 0), helpOf(1, 7, 2, 1)), lays(3, numOf(63), helpOf(0, 4, 1, 0), helpOf(1, 7, 2, 2))},
		{"its own is not done", atWork(memOf(laid{1: numOf(9)}, own, other, impl.Desc{}), o, got, helpOf(0, 4, 0, 0)), func(m *impl.Machine) { m.Mem.Descs[0].Status = impl.DcNo }},
		{"another one's is not done", atWork(memOf(laid{2: numOf(9)}, own, descOf(7, impl.DcOpen, 2, 52, 62), impl.Desc{}), o, got, helpOf(0, 4, 0, 0), helpOf(1, 7, 0, 0)), func(m *impl.Machine) { m.Mem.Descs[1].Status = impl.DcNo }},
	})
}

func TestStepHasATryDone(t *testing.T) {
	o, got := manyOps(1)[0], manyPairs(3)
	own := impl.Desc{Seq: 4, Status: impl.DcOpen, List: entriesOf(1, 51, 61, 6, 56, 66), Res: resOf(0, 1, 2)}
	other := impl.Desc{Seq: 7, Status: impl.DcOpen, List: entriesOf(2, 52, 62), Res: resOf(3, 8, 9)}
	marked := laid{1: markOf(1, 4), 6: markOf(1, 4), 2: markOf(2, 7)}
	mem := memOf(marked, own, other, impl.Desc{Seq: 2, Status: impl.DcOpen, Res: resOf(1)})
	done := func(thread int, n int, s impl.Res) func(*impl.Machine) {
		return func(m *impl.Machine) {
			m.Mem.Descs[thread].Status = impl.DcYes
			isSoNow(m, n, s)
		}
	}
	// What came of another one's call is as it was once that was so, also where the try of it is over.
	checkMoves(t, []moveCase{
		{"its own", atWork(mem, o, got, helpOf(0, 4, 2, 0)), done(0, ownCall, resOf(0, 1, 2))},
		{"its own, At far on", atWork(mem, o, got, helpOf(0, 4, 20, 5)), done(0, ownCall, resOf(0, 1, 2))},
		{"its own as another one's", atWork(mem, o, got, helpOf(1, 7, 0, 0), helpOf(0, 4, 2, 0)), done(0, ownCall, resOf(0, 1, 2))},
		{"another one's", atWork(mem, o, got, helpOf(1, 7, 1, 0)), done(1, othersCall, resOf(3, 8, 9))},
		{"another one's, its own waits", atWork(mem, o, got, helpOf(0, 4, 2, 0), helpOf(1, 7, 1, 0)), done(1, othersCall, resOf(3, 8, 9))},
		{"of who has no call", atWork(mem, o, got, helpOf(2, 2, 0, 0)), func(m *impl.Machine) { m.Mem.Descs[2].Status = impl.DcYes }},
	})
}

func TestStepMeetsAMark(t *testing.T) {
	o, got := manyOps(1)[0], manyPairs(3)
	own := descOf(4, impl.DcOpen, 1, 51, 61, 2, 52, 62)
	other := descOf(7, impl.DcOpen, 2, 52, 62, 3, 53, 63)
	third := descOf(9, impl.DcNo, 3, 53, 73)
	ofOther := atWork(memOf(laid{1: markOf(1, 4), 2: markOf(2, 7), 3: markOf(3, 9)}, own, other, third), o, got)
	helping := func(m impl.Machine, helps ...impl.Help) impl.Machine { return turned(m, stacks(helps...)) }
	// The other one meets the first one's own mark.
	ofOwn := atWork(memOf(laid{1: markOf(1, 4), 2: markOf(1, 4)}, own, other, third), o, got)
	checkMoves(t, []moveCase{
		{"of its own try alone: pushed", helping(ofOther, helpOf(0, 4, 1, 0)), stacks(helpOf(0, 4, 1, 0), helpOf(1, 7, 0, 0))},
		{"of another one's alone: in its place", helping(ofOther, helpOf(1, 7, 1, 0)), stacks(helpOf(2, 9, 0, 0))},
		{"of another one's, its own waits: in its place", helping(ofOther, helpOf(0, 4, 1, 0), helpOf(1, 7, 1, 0)), stacks(helpOf(0, 4, 1, 0), helpOf(2, 9, 0, 0))},
		{"of its own, its own waits: in its place", helping(ofOther, helpOf(0, 4, 1, 0), helpOf(0, 4, 1, 0)), stacks(helpOf(0, 4, 1, 0), helpOf(1, 7, 0, 0))},
		{"of its own, another one waits: in its place", helping(ofOther, helpOf(2, 9, 1, 0), helpOf(0, 4, 1, 0)), stacks(helpOf(2, 9, 1, 0), helpOf(1, 7, 0, 0))},
		{"its own mark is in the other one's way", helping(ofOwn, helpOf(0, 4, 1, 0), helpOf(1, 7, 0, 0)), stacks(helpOf(0, 4, 1, 0), helpOf(0, 4, 0, 0))},
		{"its own mark is in the way of another one's alone", helping(ofOwn, helpOf(1, 7, 0, 0)), stacks(helpOf(0, 4, 0, 0))},
	})
}

func TestStepLeavesATry(t *testing.T) {
	o, got := manyOps(1)[0], manyPairs(3)
	of := func(status int) impl.Desc {
		return impl.Desc{Seq: 4, Status: status, List: entriesOf(1, 51, 61, 6, 56, 66), Res: resOf(2, 7, 8)}
	}
	other := impl.Desc{Seq: 7, Status: impl.DcYes, List: entriesOf(2, 52, 62), Res: resOf(3, 8, 9)}
	yes, no, open := memOf(nil, of(2), other, impl.Desc{}), memOf(nil, of(3), other, impl.Desc{}), memOf(nil, of(1), other, impl.Desc{})
	told := func(m *impl.Machine) { endsNow(m, resOf(2, 7, 8)) }
	anew := func(m *impl.Machine) { m.Threads[0].Got, m.Threads[0].Stack = nil, nil }
	wasSo := turned(atWork(yes, o, got, helpOf(0, 4, 2, 2)), func(m *impl.Machine) {
		m.Calls[ownCall].Lin, m.Calls[ownCall].Res, m.Order = 29, resOf(2, 7, 8), append(m.Order, ownCall)
	})
	checkMoves(t, []moveCase{
		{"another one's alone", atWork(yes, o, got, helpOf(1, 7, 0, 1)), stacks()},
		{"another one's, its own waits", atWork(yes, o, got, helpOf(0, 4, 2, 1), helpOf(1, 7, 0, 1)), stacks(helpOf(0, 4, 2, 1))},
		{"another one's that is no more", atWork(open, o, got, helpOf(0, 4, 2, 1), helpOf(1, 6, 0, 0)), stacks(helpOf(0, 4, 2, 1))},
		{"another one's of who tried nothing", atWork(no, o, got, helpOf(2, 1, 0, 0)), stacks()},
		{"another one's, another one waits", atWork(yes, o, got, helpOf(2, 3, 0, 0), helpOf(1, 7, 0, 20)), stacks(helpOf(2, 3, 0, 0))},
		{"its own, done", wasSo, told},
		{"its own, done, that was not told to be so", atWork(yes, o, got, helpOf(0, 4, 2, 2)), told},
		{"its own, done, and its own waits", atWork(yes, o, got, helpOf(0, 4, 2, 0), helpOf(0, 4, 0, 2)), told},
		{"its own, done, and another one waits", atWork(yes, o, got, helpOf(1, 7, 0, 0), helpOf(0, 4, 0, 2)), told},
		{"its own, not done", atWork(no, o, got, helpOf(0, 4, 1, 2)), anew},
		{"its own, not done, and its own waits", atWork(no, o, got, helpOf(0, 4, 1, 0), helpOf(0, 4, 0, 2)), anew},
		{"its own, not done, and another one waits", atWork(no, o, got, helpOf(1, 7, 0, 0), helpOf(0, 4, 0, 2)), anew},
		{"its own that is no more, the last one done", atWork(yes, o, got, helpOf(0, 3, 0, 0)), told},
		{"its own that is no more, the last one not done", atWork(no, o, got, helpOf(0, 3, 0, 0)), anew},
		{"its own that is no more, the last one open", atWork(open, o, got, helpOf(0, 5, 0, 0)), anew},
		{"its own that never was", atWork(memOf(nil, impl.Desc{}, other, impl.Desc{}), o, got, helpOf(0, 1, 0, 0)), anew},
	})
}

func checkRefused(t *testing.T, name string, m impl.Machine, who int) {
	t.Helper()
	if got, went := impl.Step(m, who); went || !machineSame(got, m) {
		t.Errorf("%s: Step(%v, %d) = %v, %v", name, m, who, got, went)
	}
	if _, may := stepTold(m, who); may {
		t.Errorf("%s: there may be a step of %d in %v", name, who, m)
	}
}

func TestStepOfNoThread(t *testing.T) {
	for _, m := range []impl.Machine{midway(), atWork(memOf(nil, impl.Desc{}, impl.Desc{}, impl.Desc{}), manyOps(1)[0], nil)} {
		for _, who := range append(outside(0, 2), -1, 3, math.MinInt, math.MaxInt) {
			checkRefused(t, "no thread", m, who)
		}
	}
}

func TestStepOfWhoIsDone(t *testing.T) {
	checkRefused(t, "done", midway(), 2)
	for n := range 9 {
		m := fitting(memOf(nil, impl.Desc{}, impl.Desc{}), impl.Thread{Ops: manyOps(n), Pc: n}, impl.Thread{Ops: manyOps(8), Pc: 7})
		checkRefused(t, fmt.Sprint("done, ops ", n), m, 0)
		checkMove(t, m, 1)
	}
}

func TestStepAtTheLastTime(t *testing.T) {
	for who := range 2 {
		for _, late := range []int{30, 31, 99998, 99999} {
			if _, went := checkMove(t, turned(midway(), func(m *impl.Machine) { m.Time = late }), who); !went {
				t.Errorf("no step at the time %d", late)
			}
		}
		checkRefused(t, "at the last time", turned(midway(), func(m *impl.Machine) { m.Time = 100000 }), who)
	}
	// A call that begins at the last time but one begins at the last.
	m, _ := impl.MachineNew(impl.RowsNew(), [][]impl.Op{manyOps(1)})
	m.Time = 99999
	m, went := checkMove(t, m, 0)
	if !went || m.Time != 100000 || m.Calls[0].Start != 100000 {
		t.Errorf("the last step: %v, %v", m, went)
	}
	checkRefused(t, "behind the last step", m, 0)
}

func TestStepOfWrongMachines(t *testing.T) {
	for _, m := range wrongMachines() {
		if impl.MachineOk(m) {
			t.Fatalf("MachineOk(%v)", m)
		}
		for who := -1; who <= 4; who++ {
			checkRefused(t, "wrong", m, who)
		}
	}
}

// wrongMachines has machines that are not MachineOk, for each reason that there is.
func wrongMachines() []impl.Machine {
	list := []impl.Machine{{}, {Time: 5}, {Threads: idle(1)}, {Mem: memOf(nil, impl.Desc{}), Threads: idle(1)}}
	for _, mem := range wrongMems() {
		list = append(list, fitting(mem, slices.Repeat([]impl.Thread{{Ops: manyOps(1)}}, len(mem.Descs))...))
	}
	for _, turn := range turns() {
		if m := turned(midway(), turn); !machineTold(m) {
			list = append(list, m)
		}
	}
	for _, r := range wrongRows()[:12] {
		list = append(list, turned(midway(), func(m *impl.Machine) { m.First = r }))
	}
	return list
}

// A step is refused where the machine would not be MachineOk behind it.
func TestStepThatWouldNotBeOk(t *testing.T) {
	none := []impl.Desc{{}, {}, {}}
	put, got := opOf(impl.OpPut, 1, 3), pairsOf(1, 0, 6, 0, 10, 2)
	words := laid{10: numOf(2), 13: numOf(1)}
	left := laid{2: markOf(1, 8), 10: numOf(2), 13: numOf(1)}
	full := manyPairs(12)
	for i := range full {
		full[i].At = 19
	}
	own := impl.Desc{Seq: 4, Status: impl.DcOpen, List: entriesOf(1, 51, 61), Res: resOf(0, 1, 2)}
	other := impl.Desc{Seq: 7, Status: impl.DcOpen, List: entriesOf(2, 52, 62), Res: resOf(3, 8, 9)}
	soAlready := func(m impl.Machine, n int) impl.Machine {
		return turned(m, func(m *impl.Machine) { m.Calls[n].Lin, m.Order = 30, append(m.Order, n) })
	}
	mem := memOf(laid{1: markOf(1, 4), 2: markOf(2, 7)}, own, other, impl.Desc{})
	for _, c := range []struct {
		name string
		m    impl.Machine
	}{
		{"as much was read as can be", atWork(memOf(laid{1: numOf(0)}, none...), put, full)},
		{"as much was read as can be, and the try would begin", atWork(memOf(words, none...), put, append(pairsOf(1, 0, 6, 0, 10, 2), full[:9]...))},
		{"a mark of its own is left", atWork(memOf(left, descOf(8, impl.DcYes, 2, 52, 62), impl.Desc{}, impl.Desc{}), put, got)},
		{"it tried as often as it can", atWork(memOf(words, descOf(1000000, impl.DcNo), impl.Desc{}, impl.Desc{}), put, got)},
		{"a number would be too great", atWork(memOf(words, none...), put, pairsOf(1, 0, 6, 0, 10, 1000))},
		{"it was so already, and is there at once", soAlready(atWork(memOf(nil, none...), put, nil), ownCall)},
		{"it was so already, and its try is done", soAlready(atWork(mem, put, got, helpOf(0, 4, 1, 0)), ownCall)},
		{"another one's was so already, and its try is done", soAlready(atWork(mem, put, got, helpOf(1, 7, 1, 0)), othersCall)},
	} {
		checkMachineOk(t, c.name, c.m, true)
		checkRefused(t, c.name, c.m, 0)
	}
	// Just within: one less was read, one try is left, a number is as great as it can be.
	for _, m := range []impl.Machine{
		atWork(memOf(laid{1: numOf(0)}, none...), put, full[:11]),
		atWork(memOf(words, none...), put, append(pairsOf(1, 0, 6, 0, 10, 2), full[:8]...)),
		atWork(memOf(words, descOf(999999, impl.DcNo), impl.Desc{}, impl.Desc{}), put, got),
		atWork(memOf(words, none...), put, pairsOf(1, 0, 6, 0, 10, 999)),
	} {
		if _, went := checkMove(t, m, 0); !went {
			t.Errorf("no step in %v", m)
		}
	}
}

// Each thread of each machine that is made of a memory and what one can be about takes a step as it is told.
func TestStepOfAllTogether(t *testing.T) {
	ops := []impl.Op{opOf(impl.OpPut, 1, 3), opOf(impl.OpSet, 2, 5), opOf(impl.OpDel, 0, 0), opOf(impl.OpScan, 0, 0), opOf(impl.OpMake, 0, 0), opOf(impl.OpVia, 0, 2)}
	went, not := 0, 0
	for i, mem := range goodMems() {
		for j, o := range ops {
			for _, got := range [][]impl.Pair{nil, pairsOf(1, 0), pairsOf(2, 4, 8, 0, 7, 1, 11, 2), manyPairs(12)} {
				for _, helps := range [][]impl.Help{nil, {helpOf(0, 2, 1, 0)}, {helpOf(0, 3, 20, 20)}, {helpOf(0, 1, 0, 0), helpOf(0, 2, 3, 3)}, {helpOf(0, 9, 0, 0), helpOf(len(mem.Descs)-1, 2, 3, 0)}} {
					threads := slices.Repeat([]impl.Thread{{Ops: []impl.Op{o, ops[(i+j)%6]}, Pc: j % 2, On: true, Got: got, Stack: helps}}, len(mem.Descs))
					threads[len(threads)-1].On = len(got)+len(helps) > 0
					m := fitting(mem, threads...)
					for who := range threads {
						if _, ok := checkMove(t, m, who); ok {
							went++
						} else {
							not++
						}
					}
				}
			}
		}
	}
	if went < 1000 || not < 100 {
		t.Errorf("%d steps went, %d did not", went, not)
	}
}

func TestFinished(t *testing.T) {
	mem := memOf(nil, impl.Desc{}, impl.Desc{}, impl.Desc{}, impl.Desc{})
	for threads := 1; threads <= 4; threads++ {
		for n := range 9 {
			list := slices.Repeat([]impl.Thread{{Ops: manyOps(n), Pc: n}}, threads)
			m := fitting(impl.Mem{Words: mem.Words, Descs: mem.Descs[:threads]}, list...)
			m.Time = 100
			checkFinished(t, m, true)
			for i := range list {
				if n == 0 {
					continue
				}
				// One is not done: it has begun its last op, or not.
				for _, on := range []bool{false, true} {
					other := slices.Clone(list)
					other[i] = impl.Thread{Ops: manyOps(n), Pc: n - 1, On: on}
					m := fitting(impl.Mem{Words: mem.Words, Descs: mem.Descs[:threads]}, other...)
					m.Time = 100
					checkFinished(t, m, false)
				}
			}
		}
	}
	// Marks that are left do not count, nor tries.
	for _, mem := range goodMems() {
		checkFinished(t, fitting(mem, idle(len(mem.Descs))...), true)
	}
	for _, mem := range wrongMems() {
		checkNotFinished(t, fitting(mem, idle(len(mem.Descs))...))
	}
	done := fitting(memOf(nil, impl.Desc{}), impl.Thread{Ops: manyOps(2), Pc: 2})
	for _, turn := range []func(m *impl.Machine){
		func(m *impl.Machine) { m.Time = -1 },
		func(m *impl.Machine) { m.Time = 100001 },
		func(m *impl.Machine) { m.Order = nil },
		func(m *impl.Machine) { m.First.State = 6 },
		func(m *impl.Machine) { m.Threads[0].Ops = nil },
		func(m *impl.Machine) { m.Threads[0] = impl.Thread{} },
		func(m *impl.Machine) { m.Calls[1].End = -1 },
		func(m *impl.Machine) { m.Threads = append(m.Threads, impl.Thread{}) },
		func(m *impl.Machine) { m.Threads = nil },
	} {
		checkNotFinished(t, turned(done, turn))
	}
	checkFinished(t, done, true)
	checkNotFinished(t, impl.Machine{})
}

func checkFinished(t *testing.T, m impl.Machine, want bool) {
	t.Helper()
	checkMachineOk(t, "Finished", m, true)
	if impl.Finished(m) != want {
		t.Fatalf("Finished(%v) = %v", m, impl.Finished(m))
	}
}

func checkNotFinished(t *testing.T, m impl.Machine) {
	t.Helper()
	checkMachineOk(t, "Finished", m, false)
	if impl.Finished(m) {
		t.Fatalf("Finished(%v), which is not MachineOk", m)
	}
}

// runAll has each of who take a step, one behind the other.
func runAll(t *testing.T, m impl.Machine, who ...int) impl.Machine {
	t.Helper()
	for i, w := range who {
		next, went := checkMove(t, m, w)
		if !went {
			t.Fatalf("step %d, of %d, does not go in %v", i, w, m)
		}
		m = next
	}
	return m
}

func newMachine(t *testing.T, r impl.Rows, list ...[]impl.Op) impl.Machine {
	t.Helper()
	m, ok := impl.MachineNew(r, list)
	if !ok {
		t.Fatalf("MachineNew(%v, %v)", r, list)
	}
	return m
}

// A put that is alone: it begins, reads four words, lays four marks, is done, has four marks gone, and is told.
func TestAPutAlone(t *testing.T) {
	m := newMachine(t, impl.RowsNew(), []impl.Op{opOf(impl.OpPut, 1, 3)})
	m = runAll(t, m, slices.Repeat([]int{0}, 5)...)
	if len(m.Threads[0].Got) != 4 || len(m.Threads[0].Stack) != 1 || m.Mem.Descs[0].Seq != 1 || !impl.Quiet(m.Mem) {
		t.Fatalf("read: %v", m)
	}
	m = runAll(t, m, slices.Repeat([]int{0}, 4)...)
	if m.Threads[0].Stack[0] != helpOf(0, 1, 4, 0) || len(m.Order) != 0 || meansOf(m.Mem)[1] != 0 {
		t.Fatalf("marks laid: %v", m)
	}
	m = runAll(t, m, 0)
	if !slices.Equal(m.Order, []int{0}) || m.Calls[0].Lin != 10 || m.Calls[0].End != -1 || meansOf(m.Mem)[1] != 3 {
		t.Fatalf("done: %v", m)
	}
	m = runAll(t, m, slices.Repeat([]int{0}, 5)...)
	want := impl.Call{T: 0, Op: opOf(impl.OpPut, 1, 3), Start: 1, Lin: 10, End: 15}
	if !impl.Finished(m) || !impl.Quiet(m.Mem) || !callSame(m.Calls[0], want) || !slices.Equal(meansOf(m.Mem), wordsTold([]int{0, 3, 0, 0}, 0)) {
		t.Fatalf("told: %v", m)
	}
	checkRefused(t, "over", m, 0)
}

// Two puts of one value: who is second reads what was, tries, does not get done, and looks anew.
func TestAPutThatLooksAnew(t *testing.T) {
	m := newMachine(t, impl.RowsNew(), []impl.Op{opOf(impl.OpPut, 1, 3)}, []impl.Op{opOf(impl.OpPut, 2, 3)})
	m = runAll(t, m, slices.Repeat([]int{1}, 5)...)
	m = runAll(t, m, slices.Repeat([]int{0}, 15)...)
	// Its mark is laid in the first word, then the second one is another: one step more, and the marks go.
	m = runAll(t, m, 1, 1)
	if m.Mem.Descs[1].Status != impl.DcNo || m.Mem.Words[2] != markOf(2, 1) || len(m.Threads[1].Got) != 4 {
		t.Fatalf("not done: %v", m)
	}
	m = runAll(t, m, 1, 1, 1, 1, 1)
	if len(m.Threads[1].Got)+len(m.Threads[1].Stack) != 0 || !m.Threads[1].On || m.Calls[0].Lin != -1 || !impl.Quiet(m.Mem) {
		t.Fatalf("left: %v", m)
	}
	m = runAll(t, m, 1, 1)
	want := impl.Call{T: 1, Op: opOf(impl.OpPut, 2, 3), Start: 1, Lin: 29, End: 29, Res: resOf(impl.RsTaken)}
	if !impl.Finished(m) || len(m.Calls) != 2 || !callSame(m.Calls[0], want) || !slices.Equal(m.Order, []int{1, 0}) {
		t.Fatalf("told: %v", m)
	}
}

// One that is stopped in the middle of a put has it done by who comes along: its call is so, but it is told by itself.
func TestAPutThatAnotherOneHasDone(t *testing.T) {
	m := newMachine(t, rowsOf(5, 0, 0, 0, 6), []impl.Op{opOf(impl.OpPut, 1, 3)}, []impl.Op{opOf(impl.OpVia, 0, 3), opOf(impl.OpCount, 0, 0)})
	m = runAll(t, m, slices.Repeat([]int{0}, 10)...)
	if m.Threads[0].Stack[0].At != 4 || m.Mem.Words[13] != markOf(1, 1) {
		t.Fatalf("all marks but one are laid: %v", m)
	}
	// The other one begins, meets the mark, passes the four marks, lays the fifth, and has it done.
	m = runAll(t, m, slices.Repeat([]int{1}, 8)...)
	if !slices.Equal(m.Order, []int{0}) || m.Calls[0].Lin != 18 || m.Calls[0].End != -1 || m.Calls[1].Lin != -1 {
		t.Fatalf("done: %v", m)
	}
	for range 100 {
		if m.Threads[1].Pc == 2 {
			break
		}
		m = runAll(t, m, 1)
	}
	if !impl.ResSame(m.Calls[1].Res, resOf(0, 1)) || !impl.ResSame(m.Calls[2].Res, resOf(0, 2)) || m.Calls[0].End != -1 || !slices.Equal(m.Order, []int{0, 1, 2}) {
		t.Fatalf("told of the other one: %v", m)
	}
	for range 20 {
		if impl.Finished(m) {
			break
		}
		m = runAll(t, m, 0)
	}
	if !impl.Finished(m) || m.Calls[0].Lin != 18 || !slices.Equal(meansOf(m.Mem), wordsTold([]int{0, 3, 0, 6}, 5)) {
		t.Fatalf("told: %v", m)
	}
}

// timeless tells m without its times, on which no step hangs but at the last one.
func timeless(m impl.Machine) string {
	text := fmt.Sprint(m.Mem, m.Threads, m.Order)
	for _, c := range m.Calls {
		text += fmt.Sprint(c.T, c.Op, c.Lin >= 0, c.End >= 0, c.Res, ";")
	}
	return text
}

// schedules goes through all orders in which the threads of a machine can go on, each state once.
type schedules struct {
	t     *testing.T
	seen  map[string]bool
	ends  map[string]int
	ways  map[string]int
	limit int
}

func (o *schedules) from(m impl.Machine) {
	o.t.Helper()
	state := timeless(m)
	if o.seen[state] {
		return
	}
	o.seen[state] = true
	if len(o.seen) > o.limit {
		o.t.Fatalf("more than %d states", o.limit)
	}
	over := true
	for who := range m.Threads {
		next, went := checkMove(o.t, m, who)
		if !went {
			continue
		}
		over = false
		o.ways[wayOf(m, next, who)]++
		o.from(next)
	}
	if over {
		checkOver(o.t, m)
		results := make([][]impl.Res, len(m.Threads))
		for _, c := range m.Calls {
			results[c.T] = append(results[c.T], c.Res)
		}
		o.ends[fmt.Sprint(results)]++
	}
}

// wayOf tells which way a step of who took, by what is asked to be met.
func wayOf(m impl.Machine, next impl.Machine, who int) string {
	x, then := m.Threads[who], next.Threads[who]
	if !x.On {
		return "begins"
	}
	if len(x.Stack) == 0 {
		switch {
		case !then.On:
			return "there at once"
		case len(then.Stack) == 0:
			return "read"
		case len(then.Got) > len(x.Got):
			return "a try begins"
		}
		return "a mark is met"
	}
	of, _ := impl.Top(x)
	whose := "another one's "
	if of.T == who {
		whose = "its own "
	}
	way := whose + []string{"on", "push", "pop", "yes"}[assistTold(m.Mem, of).how]
	if way == "its own pop" {
		way += fmt.Sprint(" ", m.Mem.Descs[who].Status)
	}
	return way
}

// checkOver asks that where nobody can go on all was told, nothing is left of tries, and the words are those of what came of all calls in Order.
func checkOver(t *testing.T, m impl.Machine) {
	t.Helper()
	r := m.First
	for _, n := range m.Order {
		c := m.Calls[n]
		if !impl.Allowed(r, c.Op, c.Res) {
			t.Fatalf("call %d of %v was not so in %v", n, m, r)
		}
		r = afterTold(r, c.Op, c.Res)
	}
	if !impl.Finished(m) || !impl.Quiet(m.Mem) || len(m.Order) != len(m.Calls) || !slices.Equal(meansOf(m.Mem), wordsTold(r.Held, r.State)) {
		t.Fatalf("over: %v, the rows %v", m, r)
	}
}

func TestAllSchedules(t *testing.T) {
	ways := map[string]int{}
	for _, c := range []struct {
		name  string
		first impl.Rows
		list  [][]impl.Op
		// ahead is who takes a step ahead of all that is gone through.
		ahead []int
		// ends is how many ways there are for what comes of all.
		ends int
	}{
		{"two puts of one value", impl.RowsNew(), [][]impl.Op{{opOf(impl.OpPut, 1, 3)}, {opOf(impl.OpPut, 2, 3)}}, nil, 2},
		{"a put, a get and a find", impl.RowsNew(), [][]impl.Op{{opOf(impl.OpPut, 1, 3)}, {opOf(impl.OpGet, 1, 0), opOf(impl.OpFind, 0, 3)}}, nil, 3},
		{"a set and a scan", rowsOf(0, 1, 0, 0, 0), [][]impl.Op{{opOf(impl.OpSet, 0, 2)}, {opOf(impl.OpScan, 0, 0)}}, nil, 2},
		{"a del and a make", rowsOf(1, 4, 0, 0, 0), [][]impl.Op{{opOf(impl.OpDel, 0, 0)}, {opOf(impl.OpMake, 0, 0)}}, nil, 1},
		{"an open, a make and a count", rowsOf(0, 4, 0, 0, 0), [][]impl.Op{{opOf(impl.OpOpen, 0, 0)}, {opOf(impl.OpMake, 0, 0)}, {opOf(impl.OpCount, 1, 0)}}, nil, 2},
		{"three opens", impl.RowsNew(), [][]impl.Op{{opOf(impl.OpOpen, 0, 0)}, {opOf(impl.OpOpen, 0, 0)}, {opOf(impl.OpOpen, 0, 0)}}, nil, 3},
		{"a put and a via", rowsOf(5, 0, 0, 0, 0), [][]impl.Op{{opOf(impl.OpPut, 0, 1)}, {opOf(impl.OpVia, 0, 1)}}, nil, 2},
		// The get meets a mark of the make, which meets one of the put.
		{"a make, a put and a get", rowsOf(1, 0, 0, 0, 0), [][]impl.Op{{opOf(impl.OpMake, 0, 0)}, {opOf(impl.OpPut, 1, 1)}, {opOf(impl.OpGet, 0, 0)}}, []int{0, 0, 0, 0, 1, 1, 1, 1, 1, 1, 1, 1, 1}, 1},
		{"nobody has to do anything", impl.RowsNew(), [][]impl.Op{{}, {}}, nil, 1},
	} {
		o := &schedules{t: t, seen: map[string]bool{}, ends: map[string]int{}, ways: ways, limit: 30000}
		o.from(runAll(t, newMachine(t, c.first, c.list...), c.ahead...))
		if len(o.ends) != c.ends {
			t.Errorf("%s: %d states, ends %v", c.name, len(o.seen), slices.Collect(maps.Keys(o.ends)))
		}
	}
	checkAllWays(t, ways)
}

// checkAllWays asks that the steps that were taken took each way that there is.
func checkAllWays(t *testing.T, ways map[string]int) {
	t.Helper()
	for _, way := range []string{
		"begins", "there at once", "read", "a try begins", "a mark is met",
		"its own on", "its own push", "its own yes", "its own pop 2", "its own pop 3",
		"another one's on", "another one's push", "another one's pop", "another one's yes",
	} {
		if ways[way] == 0 {
			t.Errorf("no step took the way %q: %v", way, ways)
		}
	}
}

// A dice is numbers that look like any, the same at each run.
type dice uint64

func (d *dice) roll(n int) int {
	*d = *d*6364136223846793005 + 1442695040888963407
	return int(uint64(*d)>>33) % n
}

// Many ops of four threads, in orders that look like any, with turns of one thread that are short and long.
func TestLongSchedules(t *testing.T) {
	d, ops, rows, ways := dice(9), everyOp(), everyRows(), map[string]int{}
	for i := range 240 {
		list := make([][]impl.Op, 1+i%4)
		for j := range list {
			for range d.roll(9) {
				list[j] = append(list[j], ops[d.roll(len(ops))])
			}
		}
		m := newMachine(t, rows[d.roll(len(rows))], list...)
		for range 2000 {
			who := d.roll(len(list))
			for range 1 + d.roll(1+i%7) {
				next, went := checkMove(t, m, who)
				if went {
					ways[wayOf(m, next, who)]++
				}
				m = next
			}
			if impl.Finished(m) {
				break
			}
		}
		if !impl.Finished(m) {
			t.Fatalf("it does not end: %v", m)
		}
		checkOver(t, m)
	}
	checkAllWays(t, ways)
}

// A span is one list of a machine, with the spare room behind it. What lists stand in its parts is told, not what stands in these.
type span struct {
	text func() string
	fill func()
}

func spanOf[T any](list []T, other T, show func(T) string) span {
	whole := list[:cap(list)]
	text := func() string {
		told := []string{fmt.Sprint(len(list))}
		for _, x := range whole {
			told = append(told, show(x))
		}
		return strings.Join(told, ";")
	}
	fill := func() {
		for i := range whole {
			whole[i] = other
		}
	}
	return span{text, fill}
}

func plainSpan[T any](list []T, other T) span {
	return spanOf(list, other, func(x T) string { return fmt.Sprint(x) })
}

// rim tells of a list how long it is, and where it ends.
func rim[T any](list []T) string {
	return fmt.Sprint(len(list), "/", cap(list))
}

func spansOf(m impl.Machine) []span {
	list := []span{
		plainSpan(m.Mem.Words, impl.Word{N: 771, T: 772, Seq: 773}),
		spanOf(m.Mem.Descs, impl.Desc{Seq: 774, Status: 775}, func(d impl.Desc) string {
			return fmt.Sprint(d.Seq, d.Status, rim(d.List), d.Res.Code, rim(d.Res.List))
		}),
		spanOf(m.Threads, impl.Thread{Pc: 776}, func(x impl.Thread) string {
			return fmt.Sprint(x.Pc, x.On, rim(x.Ops), rim(x.Got), rim(x.Stack))
		}),
		spanOf(m.Calls, impl.Call{T: 777, Start: 778}, func(c impl.Call) string {
			return fmt.Sprint(c.T, c.Op, c.Start, c.Lin, c.End, c.Res.Code, rim(c.Res.List))
		}),
		plainSpan(m.Order, 779),
		plainSpan(m.First.Held, 780),
	}
	for _, d := range m.Mem.Descs {
		list = append(list, plainSpan(d.List, impl.Entry{At: 781, Old: 782, New: 783}), plainSpan(d.Res.List, 784))
	}
	for _, x := range m.Threads {
		list = append(list, plainSpan(x.Ops, opOf(785, 786, 787)), plainSpan(x.Got, impl.Pair{At: 788, N: 789}), plainSpan(x.Stack, helpOf(790, 791, 792, 793)))
	}
	for _, c := range m.Calls {
		list = append(list, plainSpan(c.Res.List, 794))
	}
	return list
}

func textsOf(spans []span) []string {
	texts := []string{}
	for _, s := range spans {
		texts = append(texts, s.text())
	}
	return texts
}

// roomyMachine has m with spare room behind each of its lists.
func roomyMachine(m impl.Machine) impl.Machine {
	m.Mem = roomyOf(m.Mem)
	threads, calls := []impl.Thread{}, []impl.Call{}
	for _, x := range m.Threads {
		threads = append(threads, roomyThread(x))
	}
	for _, c := range m.Calls {
		c.Res.List = roomy(c.Res.List, 81)
		calls = append(calls, c)
	}
	m.Threads, m.Calls = roomy(threads, impl.Thread{Pc: 82}), roomy(calls, impl.Call{T: 83})
	m.Order, m.First.Held = roomy(m.Order, 84), roomy(m.First.Held, 85)
	return m
}

// asked is what a function is given, as its lists, and what it answers.
type asked struct {
	given  []span
	answer []span
}

// checkSpansApart asks that a call writes into nothing that it is given, and that what it answers is new memory, each list of it apart from the others.
func checkSpansApart(t *testing.T, name string, ask func(look func(given []span)) asked) {
	t.Helper()
	once := func() asked {
		before := []string{}
		a := ask(func(given []span) { before = textsOf(given) })
		if after := textsOf(a.given); !slices.Equal(before, after) {
			t.Fatalf("%s: %v was written: %v", name, before, after)
		}
		return a
	}
	// Written into from the inner lists on, lest one be lost out of sight.
	a := once()
	before := textsOf(a.answer)
	for i, s := range slices.Backward(a.given) {
		s.fill()
		if after := textsOf(a.answer); !slices.Equal(before, after) {
			t.Fatalf("%s: what was written into list %d given stands in the answer %v, which was %v", name, i, after, before)
		}
	}
	a = once()
	given, answer := textsOf(a.given), textsOf(a.answer)
	for i, s := range slices.Backward(a.answer) {
		s.fill()
		after := textsOf(a.answer)
		if !slices.Equal(given, textsOf(a.given)) || !slices.Equal(answer[:i], after[:i]) || !slices.Equal(answer[i+1:], after[i+1:]) {
			t.Fatalf("%s: what was written into list %d answered stands in %v or %v, which were %v and %v", name, i, textsOf(a.given), after, given, answer)
		}
		answer[i] = after[i]
	}
}

// someMachines has machines that are at all kinds of things, such as come of new ones, such as do not, and such as are not MachineOk.
func someMachines(t *testing.T) []impl.Machine {
	list := []impl.Machine{midway()}
	for i, m := range wrongMachines() {
		if i%9 == 0 {
			list = append(list, m)
		}
	}
	m := newMachine(t, rowsOf(2, 1, 0, 5, 0), []impl.Op{opOf(impl.OpSet, 0, 2), opOf(impl.OpScan, 0, 0)}, []impl.Op{opOf(impl.OpPut, 1, 2), opOf(impl.OpGet, 1, 0)}, []impl.Op{opOf(impl.OpFind, 0, 5), opOf(impl.OpDel, 0, 0)})
	d := dice(5)
	for !impl.Finished(m) {
		list = append(list, m)
		m, _ = stepTold(m, d.roll(3))
	}
	return append(list, m)
}

func TestStepSharesNothing(t *testing.T) {
	for _, m := range someMachines(t) {
		for who := -1; who <= len(m.Threads); who++ {
			checkSpansApart(t, fmt.Sprint("Step ", m, who), func(look func([]span)) asked {
				given := roomyMachine(m)
				look(spansOf(given))
				got, _ := impl.Step(given, who)
				return asked{spansOf(given), spansOf(got)}
			})
		}
	}
}

// withOneList has m with one list wherever there can be one.
func withOneList(m impl.Machine) impl.Machine {
	return turned(m, func(m *impl.Machine) {
		told, ops := []int{4, 5, 6}, manyOps(8)
		for i := range m.Mem.Descs {
			m.Mem.Descs[i].Res.List = told
		}
		for i := range m.Calls {
			m.Calls[i].Res.List = told
		}
		for i, x := range m.Threads {
			if len(x.Ops) <= 8 {
				m.Threads[i].Ops = ops[:len(x.Ops)]
			}
		}
	})
}

// The lists of what is answered are apart also where those given are one.
func TestMachinesAnswerListsApart(t *testing.T) {
	for _, m := range someMachines(t) {
		one := withOneList(m)
		for who := -1; who < len(m.Threads); who++ {
			checkSpansApart(t, fmt.Sprint("Step ", one, who), func(look func([]span)) asked {
				got, _ := impl.Step(one, who)
				look(nil)
				return asked{nil, spansOf(got)}
			})
		}
	}
}

func TestMachineNewSharesNothing(t *testing.T) {
	for _, r := range append(wrongRows(), impl.RowsNew(), rowsOf(3, 5, 0, 2, 0)) {
		for n := range 6 {
			for _, same := range []bool{false, true} {
				checkSpansApart(t, fmt.Sprint("MachineNew ", r, n), func(look func([]span)) asked {
					held, list := roomy(r.Held, 6), [][]impl.Op{}
					given := []span{plainSpan(held, 7)}
					ops := roomy(manyOps(3), opOf(1, 1, 1))
					for i := range n {
						if !same {
							ops = roomy(manyOps(i), opOf(1, 1, 1))
						}
						list = append(list, ops)
						given = append(given, plainSpan(ops, opOf(2, 2, 2)))
					}
					list = roomy(list, manyOps(2))
					given = append([]span{spanOf(list, nil, rim[impl.Op])}, given...)
					look(given)
					m, _ := impl.MachineNew(impl.Rows{Held: held, State: r.State}, list)
					return asked{given, spansOf(m)}
				})
			}
		}
	}
}

func TestMachineOkAndFinishedWriteIntoNothing(t *testing.T) {
	for _, m := range someMachines(t) {
		given := roomyMachine(m)
		before := textsOf(spansOf(given))
		if impl.MachineOk(given) != impl.MachineOk(m) || impl.Finished(given) != impl.Finished(m) {
			t.Errorf("what stands behind the lists of %v counts", m)
		}
		if after := textsOf(spansOf(given)); !slices.Equal(before, after) {
			t.Errorf("%v was written: %v", before, after)
		}
	}
}

// What stands behind the lists of a machine does not count for a step.
func TestStepDoesNotLookBehindLists(t *testing.T) {
	for _, m := range someMachines(t) {
		for who := -1; who <= len(m.Threads); who++ {
			got, went := impl.Step(roomyMachine(m), who)
			want, may := stepTold(m, who)
			if went != may || !machineSame(got, want) {
				t.Fatalf("Step(%v, %d) = %v, %v with room behind its lists, want %v, %v", m, who, got, went, want, may)
			}
		}
	}
}

// Nothing is kept: the same is answered of the same machine, whatever was asked meanwhile, also where many ask at once.
func TestMachinesAnswerTheSameAtEachCall(t *testing.T) {
	list := someMachines(t)
	var all sync.WaitGroup
	for range 8 {
		all.Go(func() {
			for i, m := range list {
				for who := range m.Threads {
					got, went := impl.Step(m, who)
					if want, may := stepTold(m, who); went != may || !machineSame(got, want) {
						t.Errorf("machine %d: Step(%v, %d) = %v, %v", i, m, who, got, went)
					}
				}
				if impl.MachineOk(m) != machineTold(m) {
					t.Errorf("machine %d: MachineOk(%v)", i, m)
				}
			}
		})
	}
	all.Wait()
}

// When a step is answered nobody is left who works at it.
func TestStepLeavesNobodyBehind(t *testing.T) {
	before := runtime.NumGoroutine()
	for _, m := range someMachines(t) {
		for range 20 {
			for who := -1; who <= len(m.Threads); who++ {
				impl.Step(m, who)
			}
		}
	}
	// Who has said that it is over may still be on its way out.
	for range 1000 {
		if runtime.NumGoroutine() <= before {
			return
		}
		time.Sleep(time.Millisecond)
	}
	t.Errorf("%d goroutines, %d before", runtime.NumGoroutine(), before)
}
