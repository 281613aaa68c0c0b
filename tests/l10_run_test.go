package tests

import (
	"fmt"
	"math"
	"runtime"
	"slices"
	"sync"
	"testing"
	"time"

	"loop.example/g00468/impl"
)

// Promise 10: who goes on alone gets done; one that is stopped holds nobody up.

// playTold answers by the document's words what comes of a step of each, one behind the other.
func playTold(m impl.Machine, who []int) impl.Machine {
	if len(who) > 2000 {
		return m
	}
	for _, w := range who {
		m, _ = stepTold(m, w)
	}
	return m
}

// aloneTold does not hang on whether there is such a thread: no step of none goes.
func aloneTold(m impl.Machine, who int, n int) impl.Machine {
	for range max(min(n, 2000), 0) {
		next, went := stepTold(m, who)
		if !went {
			return m
		}
		told := next.Threads[who].Pc != m.Threads[who].Pc
		m = next
		if told {
			return m
		}
	}
	return m
}

func fairTold(m impl.Machine, n int) impl.Machine {
	for range max(min(n, 2000), 0) {
		if allDone(m) {
			return m
		}
		for who := range m.Threads {
			m, _ = stepTold(m, who)
		}
	}
	return m
}

func allDone(m impl.Machine) bool {
	return machineTold(m) && !slices.ContainsFunc(m.Threads, func(x impl.Thread) bool { return x.Pc != len(x.Ops) })
}

func checkPlay(t *testing.T, name string, m impl.Machine, who []int, want impl.Machine) {
	t.Helper()
	if got := impl.Play(m, who); !machineSame(got, want) {
		t.Fatalf("%s: Play(%v, %v) = %v, want %v", name, m, who, got, want)
	}
}

func checkAlone(t *testing.T, name string, m impl.Machine, who int, n int, want impl.Machine) {
	t.Helper()
	if got := impl.Alone(m, who, n); !machineSame(got, want) {
		t.Fatalf("%s: Alone(%v, %d, %d) = %v, want %v", name, m, who, n, got, want)
	}
}

func checkFair(t *testing.T, name string, m impl.Machine, n int, want impl.Machine) {
	t.Helper()
	if got := impl.Fair(m, n); !machineSame(got, want) {
		t.Fatalf("%s: Fair(%v, %d) = %v, want %v", name, m, n, got, want)
	}
}

func TestRunConstants(t *testing.T) {
	if impl.MaxWho != 2000 {
		t.Errorf("MaxWho %d", impl.MaxWho)
	}
}

func TestBound(t *testing.T) {
	for threads, want := range []int{0, 400, 800, 1200, 1600} {
		if got := impl.Bound(threads); got != want {
			t.Errorf("Bound(%d) = %d, want %d", threads, got, want)
		}
	}
	// Whoever is to get done alone can do so by one call.
	if impl.Bound(impl.MaxThreads) > impl.MaxWho {
		t.Errorf("Bound(%d) is above %d", impl.MaxThreads, impl.MaxWho)
	}
	// Of what can be no number of threads it is 400 times that too.
	for _, n := range append(edges(), -2, -1, 5, math.MinInt, math.MaxInt) {
		if got := impl.Bound(n); got != 400*n {
			t.Errorf("Bound(%d) = %d", n, got)
		}
	}
}

// endless has a machine of so many threads, at the time 30, of which the first one helps two tries by turns and never gets done: each of these has a mark in the way of the other one. Nothing is turned by a step but the time and whom it helps.
func endless(threads int) impl.Machine {
	list := entriesOf(1, 51, 61, 5, 55, 65)
	descs := []impl.Desc{{}, {Seq: 3, Status: impl.DcOpen, List: list}, {Seq: 4, Status: impl.DcOpen, List: list}, {}}
	who := idle(threads)
	who[0] = impl.Thread{Ops: manyOps(2), On: true, Stack: []impl.Help{helpOf(1, 3, 0, 0)}}
	return fitting(memOf(laid{1: markOf(3, 4), 5: markOf(2, 3)}, descs[:threads]...), who...)
}

// puts has three threads that are in each other's way, the last of which has two ops.
func puts(t *testing.T) impl.Machine {
	t.Helper()
	return newMachine(t, rowsOf(2, 1, 0, 0, 0),
		[]impl.Op{opOf(impl.OpPut, 1, 3), opOf(impl.OpScan, 0, 0)},
		[]impl.Op{opOf(impl.OpPut, 2, 3)},
		[]impl.Op{opOf(impl.OpSet, 0, 2), opOf(impl.OpGet, 0, 0)},
	)
}

func at(m impl.Machine, late int) impl.Machine {
	return turned(m, func(m *impl.Machine) { m.Time = late })
}

func TestPlayOfNobodyAndOfOne(t *testing.T) {
	for _, m := range append(someMachines(t), endless(4)) {
		checkPlay(t, "nil", m, nil, m)
		checkPlay(t, "nobody", m, []int{}, m)
		for who := -2; who <= len(m.Threads)+1; who++ {
			want, _ := stepTold(m, who)
			checkPlay(t, "one", m, []int{who}, want)
		}
	}
}

func TestPlayOfAsManyAsCanBe(t *testing.T) {
	m := endless(3)
	for _, n := range []int{1, 2, 1999, 2000} {
		got := impl.Play(m, slices.Repeat([]int{0}, n))
		if got.Time != 30+n || !machineSame(got, playTold(m, slices.Repeat([]int{0}, n))) {
			t.Errorf("Play of %d: the time %d", n, got.Time)
		}
	}
	for _, n := range []int{2001, 2002, 4000, 100000} {
		checkPlay(t, fmt.Sprint("one and ", n, " in all"), m, slices.Repeat([]int{0}, n), m)
		// Also where nobody would go on but the first one.
		checkPlay(t, fmt.Sprint("no thread and ", n, " in all"), m, append([]int{0}, slices.Repeat([]int{-1}, n-1)...), m)
	}
	// Those count too that are no threads: the last one of all goes on still.
	last := append(slices.Repeat([]int{-1, 7}, 999), 3, 0)
	if got := impl.Play(m, last); len(last) != 2000 || got.Time != 31 {
		t.Errorf("Play of %d: the time %d", len(last), got.Time)
	}
}

func TestPlayWithNoThreadsAmongOthers(t *testing.T) {
	m := puts(t)
	for _, none := range []int{-1, 3, 4, math.MinInt, math.MaxInt} {
		for _, c := range []struct {
			who  []int
			time int
		}{
			{[]int{none}, 0},
			{[]int{none, none, none}, 0},
			{[]int{none, 0}, 1},
			{[]int{0, none}, 1},
			{[]int{0, none, 1, none, none, 2, 0}, 4},
		} {
			went := slices.DeleteFunc(slices.Clone(c.who), func(w int) bool { return w == none })
			want := playTold(m, went)
			if want.Time != c.time {
				t.Fatalf("told: %v", want)
			}
			checkPlay(t, "no thread", m, c.who, want)
		}
	}
}

func TestPlayWithWhoIsDoneAmongOthers(t *testing.T) {
	m := newMachine(t, impl.RowsNew(), []impl.Op{opOf(impl.OpGet, 1, 0)}, nil, []impl.Op{opOf(impl.OpPut, 1, 3)})
	// The first one is told by its second step, the second one has nothing to do.
	m = impl.Play(m, []int{0, 1, 0, 1, 0, 0})
	if m.Time != 2 || m.Threads[0].Pc != 1 || len(m.Calls) != 1 {
		t.Fatalf("told: %v", m)
	}
	got := impl.Play(m, []int{0, 2, 1, 1, 2, 0, 2})
	if got.Time != 5 || len(got.Calls) != 2 || got.Calls[1].Start != 3 || len(got.Threads[2].Got) != 2 {
		t.Fatalf("the third one did not go on: %v", got)
	}
	checkPlay(t, "done", m, []int{0, 2, 1, 1, 2, 0, 2}, playTold(m, []int{2, 2, 2}))
	checkPlay(t, "done alone", m, []int{0, 1, 1, 0}, m)
}

// A step that would not leave the machine MachineOk is refused as often as it is asked for, and holds nobody else up.
func TestPlayWithWhoIsRefusedAmongOthers(t *testing.T) {
	words := laid{10: numOf(2), 13: numOf(1)}
	m := atWork(memOf(words, descOf(1000000, impl.DcNo), impl.Desc{}, impl.Desc{}), opOf(impl.OpPut, 1, 3), pairsOf(1, 0, 6, 0, 10, 2))
	checkRefused(t, "it tried as often as it can", m, 0)
	checkPlay(t, "refused", m, []int{0, 0, 0}, m)
	checkAlone(t, "refused", m, 0, 9, m)
	m.Threads[1] = impl.Thread{Ops: manyOps(2)}
	m.Calls = m.Calls[:othersCall]
	want := playTold(m, []int{1, 1})
	if want.Time != m.Time+2 {
		t.Fatalf("told: %v", want)
	}
	checkPlay(t, "refused among others", m, []int{0, 1, 0, 0, 1, 0}, want)
	checkFair(t, "refused among others", m, 2, want)
}

func TestRunOfWrongMachines(t *testing.T) {
	for _, m := range append(wrongMachines(), impl.Machine{Threads: idle(20000)}) {
		for _, who := range [][]int{nil, {0}, {0, 1, 2, 0, 1, 2, -1}, slices.Repeat([]int{0, 1}, 1000), slices.Repeat([]int{0}, 2001)} {
			checkPlay(t, "wrong", m, who, m)
		}
		for _, n := range []int{-1, 0, 1, 2, 2000, 2001} {
			checkFair(t, "wrong", m, n, m)
			for who := -1; who <= 4; who++ {
				checkAlone(t, "wrong", m, who, n, m)
			}
		}
	}
}

func TestRunMeetsTheLastTime(t *testing.T) {
	for left := range 12 {
		m := at(endless(3), 100000-left)
		for _, n := range []int{0, 1, 2, 5, 11, 12, 100, 2000} {
			late := 100000 - left + min(n, left)
			who := slices.Repeat([]int{0}, n)
			if got := impl.Play(m, who); got.Time != late || !machineSame(got, playTold(m, who)) {
				t.Errorf("Play of %d with %d left: the time %d", n, left, got.Time)
			}
			if got := impl.Alone(m, 0, n); got.Time != late || !machineSame(got, aloneTold(m, 0, n)) {
				t.Errorf("Alone by %d with %d left: the time %d", n, left, got.Time)
			}
			if got := impl.Fair(m, n); got.Time != late || !machineSame(got, fairTold(m, n)) {
				t.Errorf("Fair by %d with %d left: the time %d", n, left, got.Time)
			}
		}
		// In the middle of a round: who comes behind the last time does not go on.
		m = at(puts(t), 100000-left)
		got := impl.Fair(m, 2000)
		if got.Time != 100000 || impl.Finished(got) || !machineSame(got, playTold(m, slices.Repeat([]int{0, 1, 2}, 5)[:left])) {
			t.Errorf("Fair with %d left: %v", left, got)
		}
	}
}

// A play is its steps one behind the other, and two plays of its halves are the play.
func TestPlayIsItsSteps(t *testing.T) {
	d, ops, rows := dice(3), everyOp(), everyRows()
	for i := range 60 {
		list := make([][]impl.Op, 1+i%4)
		for j := range list {
			for range d.roll(5) {
				list[j] = append(list[j], ops[d.roll(len(ops))])
			}
		}
		m := newMachine(t, rows[d.roll(len(rows))], list...)
		who := []int{}
		for range d.roll(300) {
			// One below and one above what are threads stand among them.
			who = append(who, slices.Repeat([]int{d.roll(len(list)+2) - 1}, 1+d.roll(4))...)
		}
		want := playTold(m, who)
		checkPlay(t, "steps", m, who, want)
		half := d.roll(len(who) + 1)
		checkPlay(t, "halves", impl.Play(m, who[:half]), who[half:], want)
		one := m
		for _, w := range who {
			one = impl.Play(one, []int{w})
		}
		if !machineSame(one, want) {
			t.Fatalf("one by one: %v, want %v", one, want)
		}
	}
}

func TestAloneByHowMany(t *testing.T) {
	m := endless(3)
	for _, c := range []struct {
		n     int
		steps int
	}{
		{math.MinInt, 0}, {-2000, 0}, {-1, 0}, {0, 0}, {1, 1}, {2, 2}, {1999, 1999}, {2000, 2000}, {2001, 2000}, {2002, 2000}, {100000, 2000}, {math.MaxInt, 2000},
	} {
		if got := impl.Alone(m, 0, c.n); got.Time != 30+c.steps || !machineSame(got, playTold(m, slices.Repeat([]int{0}, c.steps))) {
			t.Errorf("Alone by %d: the time %d", c.n, got.Time)
		}
	}
}

func TestAloneOfNoThread(t *testing.T) {
	for _, m := range []impl.Machine{puts(t), midway(), endless(3)} {
		for _, who := range append(outside(0, 2), -1, 3, math.MinInt, math.MaxInt) {
			for _, n := range []int{-1, 0, 1, 2000, 2001} {
				checkAlone(t, "no thread", m, who, n, m)
			}
		}
	}
}

func TestAloneOfWhoIsDone(t *testing.T) {
	for _, n := range []int{-1, 0, 1, 2, 2000, 2001} {
		checkAlone(t, "done", midway(), 2, n, midway())
		m := newMachine(t, impl.RowsNew(), nil, manyOps(2))
		checkAlone(t, "nothing to do", m, 0, n, m)
		m = impl.Play(m, slices.Repeat([]int{1}, 60))
		if !impl.Finished(m) {
			t.Fatalf("not told: %v", m)
		}
		checkAlone(t, "finished", m, 1, n, m)
	}
}

// It stops where its op is told, whatever steps are left, and goes on with the next one when it is asked again.
func TestAloneStopsWhereItsOpIsTold(t *testing.T) {
	m := newMachine(t, impl.RowsNew(), []impl.Op{opOf(impl.OpPut, 1, 3), opOf(impl.OpGet, 1, 0), opOf(impl.OpGet, 2, 0)}, manyOps(1))
	// A put alone takes 15 steps, a get two.
	for i, late := range []int{15, 17, 19} {
		for _, left := range []int{15, 16, 100, 2000, 2001} {
			got := impl.Alone(m, 0, left)
			if got.Time != late || got.Threads[0].Pc != i+1 || got.Threads[0].On || got.Calls[i].End != late || len(got.Calls) != i+1 {
				t.Fatalf("Alone by %d: %v", left, got)
			}
		}
		// One step short of it nothing is told.
		if got := impl.Alone(m, 0, late-m.Time-1); got.Time != late-1 || got.Threads[0].Pc != i || !got.Threads[0].On {
			t.Fatalf("one step short: %v", got)
		}
		m = impl.Alone(m, 0, late-m.Time)
	}
	if impl.Finished(m) || !impl.ThreadDone(m.Threads[0]) {
		t.Errorf("not told, or more than that: %v", m)
	}
}

func TestAloneOfAllMachines(t *testing.T) {
	for _, m := range append(someMachines(t), endless(3), endless(4)) {
		for who := -1; who <= len(m.Threads); who++ {
			for _, n := range []int{-1, 0, 1, 2, 3, 7, 20, 100} {
				checkAlone(t, "some", m, who, n, aloneTold(m, who, n))
			}
		}
	}
}

func TestFairByHowManyRounds(t *testing.T) {
	m := endless(3)
	for _, c := range []struct {
		n     int
		steps int
	}{
		{math.MinInt, 0}, {-2000, 0}, {-1, 0}, {0, 0}, {1, 1}, {2, 2}, {1999, 1999}, {2000, 2000}, {2001, 2000}, {2002, 2000}, {100000, 2000}, {math.MaxInt, 2000},
	} {
		if got := impl.Fair(m, c.n); got.Time != 30+c.steps || !machineSame(got, playTold(m, slices.Repeat([]int{0}, c.steps))) {
			t.Errorf("Fair by %d: the time %d", c.n, got.Time)
		}
	}
	// A round is a step of each: 2000 rounds of two that go on are 4000 steps.
	two := turned(m, func(m *impl.Machine) {
		m.Threads[1] = impl.Thread{Ops: manyOps(1), On: true, Stack: []impl.Help{helpOf(2, 4, 0, 0)}}
		m.Calls = append(m.Calls, openCallOf(1, manyOps(1)[0], 30))
	})
	checkMachineOk(t, "two that go on", two, true)
	for _, n := range []int{2000, 2001} {
		if got := impl.Fair(two, n); got.Time != 4030 || !machineSame(got, fairTold(two, n)) {
			t.Errorf("Fair by %d of two that go on: the time %d", n, got.Time)
		}
	}
}

func TestFairGoesOnAscending(t *testing.T) {
	for threads := 1; threads <= 4; threads++ {
		m := newMachine(t, impl.RowsNew(), slices.Repeat([][]impl.Op{manyOps(8)}, threads)...)
		got := impl.Fair(m, 1)
		if got.Time != threads || len(got.Calls) != threads {
			t.Fatalf("a round of %d: %v", threads, got)
		}
		for i, c := range got.Calls {
			if c.T != i || c.Start != i+1 {
				t.Fatalf("a round of %d: %v", threads, got)
			}
		}
		who := []int{}
		for i := range threads {
			who = append(who, i)
		}
		for n := range 30 {
			checkFair(t, "rounds", m, n, playTold(m, slices.Repeat(who, n)))
		}
	}
}

func TestFairOfWhatIsFinished(t *testing.T) {
	for threads := 1; threads <= 4; threads++ {
		m := newMachine(t, impl.RowsNew(), make([][]impl.Op, threads)...)
		for _, n := range []int{-1, 0, 1, 2, 2000, 2001} {
			checkFair(t, "nothing to do", m, n, m)
		}
	}
	m := impl.Fair(puts(t), 2000)
	if !impl.Finished(m) {
		t.Fatalf("not told: %v", m)
	}
	checkOver(t, m)
	for _, n := range []int{-1, 0, 1, 2, 2000, 2001} {
		checkFair(t, "finished", m, n, m)
	}
}

// What becomes Finished within a round stays as it is then, whatever rounds are left.
func TestFairFinishesWithinARound(t *testing.T) {
	get := []impl.Op{opOf(impl.OpGet, 1, 0)}
	for _, c := range []struct {
		name string
		list [][]impl.Op
		// by is the round in which all is told, late the time of the step that tells it.
		by   int
		late int
	}{
		{"the first one is the last", [][]impl.Op{append(get, get...), get, get}, 4, 8},
		{"the second one is the last", [][]impl.Op{get, append(get, get...), get}, 4, 8},
		{"all in one round", [][]impl.Op{get, get, get}, 2, 6},
		{"some are done already", [][]impl.Op{nil, get, nil, append(get, get...)}, 4, 6},
	} {
		m := newMachine(t, impl.RowsNew(), c.list...)
		for n := range 8 {
			got := impl.Fair(m, n)
			if impl.Finished(got) != (n >= c.by) || n >= c.by && got.Time != c.late || !machineSame(got, fairTold(m, n)) {
				t.Errorf("%s: Fair by %d: %v", c.name, n, got)
			}
		}
		if got := impl.Fair(m, 2000); got.Time != c.late {
			t.Errorf("%s: %v", c.name, got)
		}
	}
}

func TestFairOfAllMachines(t *testing.T) {
	for _, m := range append(someMachines(t), endless(3), endless(4)) {
		for _, n := range []int{-1, 0, 1, 2, 3, 7, 20, 100} {
			checkFair(t, "some", m, n, fairTold(m, n))
		}
	}
}

// statesOf has all machines that can be met from m on, whoever goes on when, each once, whatever its times are.
func statesOf(m impl.Machine) []impl.Machine {
	list, seen := []impl.Machine{m}, map[string]bool{timeless(m): true}
	for i := 0; i < len(list); i++ {
		for who := range m.Threads {
			next, went := impl.Step(list[i], who)
			if text := timeless(next); went && !seen[text] {
				seen[text] = true
				list = append(list, next)
			}
		}
	}
	return list
}

// crowd is threads that get into each other's way.
type crowd struct {
	name  string
	first impl.Rows
	list  [][]impl.Op
	// ahead is who takes a step ahead of all that is gone through.
	ahead []int
}

func crowds() []crowd {
	open := []impl.Op{opOf(impl.OpOpen, 0, 0)}
	return []crowd{
		{"two puts of one value", impl.RowsNew(), [][]impl.Op{{opOf(impl.OpPut, 1, 3)}, {opOf(impl.OpPut, 2, 3)}}, nil},
		{"a put, a get and a find", impl.RowsNew(), [][]impl.Op{{opOf(impl.OpPut, 1, 3)}, {opOf(impl.OpGet, 1, 0), opOf(impl.OpFind, 0, 3)}}, nil},
		{"a set and a scan", rowsOf(0, 1, 0, 0, 0), [][]impl.Op{{opOf(impl.OpSet, 0, 2)}, {opOf(impl.OpScan, 0, 0)}}, nil},
		{"a del and a make", rowsOf(1, 4, 0, 0, 0), [][]impl.Op{{opOf(impl.OpDel, 0, 0)}, {opOf(impl.OpMake, 0, 0)}}, nil},
		{"an open, a make and a count", rowsOf(0, 4, 0, 0, 0), [][]impl.Op{open, {opOf(impl.OpMake, 0, 0)}, {opOf(impl.OpCount, 1, 0)}}, nil},
		{"three opens", impl.RowsNew(), [][]impl.Op{open, open, open}, []int{0, 0}},
		{"a put and a via", rowsOf(5, 0, 0, 0, 0), [][]impl.Op{{opOf(impl.OpPut, 0, 1)}, {opOf(impl.OpVia, 0, 1)}}, nil},
		// The get meets a mark of the make, which meets one of the put.
		{"a make, a put and a get", rowsOf(1, 0, 0, 0, 0), [][]impl.Op{{opOf(impl.OpMake, 0, 0)}, {opOf(impl.OpPut, 1, 1)}, {opOf(impl.OpGet, 0, 0)}}, []int{0, 0, 0, 0, 1, 1, 1, 1, 1, 1, 1, 1, 1}},
		{"nobody has to do anything", impl.RowsNew(), [][]impl.Op{{}, {}}, nil},
	}
}

// inEachCrowd asks of each state that each crowd can be in. The crowds are asked beside each other.
func inEachCrowd(t *testing.T, ask func(t *testing.T, m impl.Machine)) {
	for _, c := range crowds() {
		t.Run(c.name, func(t *testing.T) {
			t.Parallel()
			for _, m := range statesOf(impl.Play(newMachine(t, c.first, c.list...), c.ahead)) {
				ask(t, m)
			}
		})
	}
}

// checkStayed asks that those did not go on who are named: they are as they were, and nothing of theirs was told.
func checkStayed(t *testing.T, m impl.Machine, then impl.Machine, who ...int) {
	t.Helper()
	for _, w := range who {
		if !threadSame(m.Threads[w], then.Threads[w]) {
			t.Fatalf("thread %d of %v went on: %v", w, m, then)
		}
	}
	for n, c := range then.Calls {
		if slices.Contains(who, c.T) && (n >= len(m.Calls) || c.End != m.Calls[n].End) {
			t.Fatalf("call %d of %v was told: %v", n, m, then)
		}
	}
}

// othersThan has the threads of m but one, ascending.
func othersThan(m impl.Machine, one int) []int {
	list := []int{}
	for who := range m.Threads {
		if who != one {
			list = append(list, who)
		}
	}
	return list
}

// checkGetsDone asks that the op that who is at, or is to begin, is told within Bound when nobody else goes on, and just that one. It answers the machine then.
func checkGetsDone(t *testing.T, m impl.Machine, who int) impl.Machine {
	t.Helper()
	then := impl.Alone(m, who, impl.Bound(len(m.Threads)))
	x := then.Threads[who]
	if x.Pc != m.Threads[who].Pc+1 || x.On || then.Time > m.Time+impl.Bound(len(m.Threads)) {
		t.Fatalf("%d alone does not get done in %v: %v", who, m, then)
	}
	told := 0
	for n, c := range then.Calls {
		if c.End == then.Time && c.T == who && c.Lin >= c.Start && (n >= len(m.Calls) || m.Calls[n].End == -1) {
			told++
		}
	}
	if told != 1 {
		t.Fatalf("%d alone in %v has %d calls told: %v", who, m, told, then)
	}
	checkStayed(t, m, then, othersThan(m, who)...)
	checkToldStays(t, m, then)
	return then
}

// Wherever the others were stopped, even in the middle of a try of theirs: who goes on alone gets done, op by op.
func TestWhoGoesOnAloneGetsDone(t *testing.T) {
	inEachCrowd(t, func(t *testing.T, m impl.Machine) {
		for who := range m.Threads {
			then := m
			for !impl.ThreadDone(then.Threads[who]) {
				then = checkGetsDone(t, then, who)
			}
			if len(othersThan(m, who)) > 1 {
				continue
			}
			// Once the other one goes on again it gets done too.
			for other := range m.Threads {
				for !impl.ThreadDone(then.Threads[other]) {
					then = checkGetsDone(t, then, other)
				}
			}
			checkOver(t, then)
		}
	})
}

// checkHoldsNobodyUp asks that all others get done when one never goes on again, by rounds of these.
func checkHoldsNobodyUp(t *testing.T, m impl.Machine, stopped int) impl.Machine {
	t.Helper()
	others := othersThan(m, stopped)
	held := func(then impl.Machine) bool {
		return slices.ContainsFunc(others, func(who int) bool { return !impl.ThreadDone(then.Threads[who]) })
	}
	then := m
	for range 500 {
		if !held(then) {
			break
		}
		then = impl.Play(then, slices.Repeat(others, 5))
	}
	if held(then) {
		t.Fatalf("%d holds others up in %v: %v", stopped, m, then)
	}
	checkStayed(t, m, then, stopped)
	return then
}

// One that is stopped holds nobody up, at whatever step it stopped.
func TestOneThatIsStoppedHoldsNobodyUp(t *testing.T) {
	inEachCrowd(t, func(t *testing.T, m impl.Machine) {
		for stopped, x := range m.Threads {
			// Only where it is at something can it be in the way.
			if !x.On {
				continue
			}
			then := checkHoldsNobodyUp(t, m, stopped)
			then = checkGetsDone(t, then, stopped)
			if impl.ThreadDone(then.Threads[stopped]) {
				checkOver(t, then)
			}
		}
	})
}

func TestFairFinishesFromEachState(t *testing.T) {
	inEachCrowd(t, func(t *testing.T, m impl.Machine) {
		then := impl.Fair(m, 200)
		if !machineSame(then, impl.Fair(impl.Fair(m, 3), 197)) {
			t.Fatalf("Fair(%v, 200) = %v, not so by two", m, then)
		}
		checkOver(t, then)
	})
}

// anyMachine has a new machine of so many threads, with ops that look like any.
func anyMachine(t *testing.T, d *dice, threads int, most int) impl.Machine {
	t.Helper()
	ops, rows, list := everyOp(), everyRows(), make([][]impl.Op, threads)
	for i := range list {
		for range 1 + d.roll(most) {
			list[i] = append(list[i], ops[d.roll(len(ops))])
		}
	}
	return newMachine(t, rows[d.roll(len(rows))], list...)
}

// anyOrder has numbers of threads that look like any, with turns of one thread that are short and long.
func anyOrder(d *dice, threads int, turns int, long int) []int {
	who := []int{}
	for range turns {
		who = append(who, slices.Repeat([]int{d.roll(threads)}, 1+d.roll(long))...)
	}
	return who
}

// Many ops of up to four threads, that are stopped anywhere: each gets done alone, then the others, one behind the other.
func TestWhoGoesOnAloneGetsDoneAmongMany(t *testing.T) {
	d, helped := dice(21), 0
	for i := range 300 {
		threads := 1 + i%4
		m := impl.Play(anyMachine(t, &d, threads, 8), anyOrder(&d, threads, d.roll(60), 1+i%9))
		for first := range threads {
			then := m
			for j := range threads {
				who := (first + j) % threads
				for !impl.ThreadDone(then.Threads[who]) {
					next := checkGetsDone(t, then, who)
					if len(next.Order) > len(then.Order)+1 {
						helped++
					}
					then = next
				}
			}
			checkOver(t, then)
		}
	}
	if helped < 30 {
		t.Errorf("only %d had the op of another one done on their way", helped)
	}
}

// Threads that are stopped one by one, each in the middle of what it does: who is left gets done, and they do when they go on again.
func TestThoseThatAreStoppedHoldNobodyUpAmongMany(t *testing.T) {
	d, between := dice(22), 0
	for i := range 300 {
		threads := 2 + i%3
		m := impl.Play(anyMachine(t, &d, threads, 8), anyOrder(&d, threads, d.roll(40), 1+i%9))
		for stopped, x := range m.Threads {
			if len(x.Stack) > 0 {
				between++
			}
			then := checkHoldsNobodyUp(t, m, stopped)
			then = impl.Fair(then, 2000)
			if !impl.Finished(then) {
				t.Fatalf("%d does not get done in %v: %v", stopped, m, then)
			}
			checkOver(t, then)
		}
	}
	if between < 100 {
		t.Errorf("only %d were stopped in the middle of a try", between)
	}
}

// Three tries that want one value, each in the middle, and a scan that meets a mark of each: who goes on alone helps all that are in its way.
func TestWhoGoesOnAloneHelpsAllInItsWay(t *testing.T) {
	m := newMachine(t, rowsOf(5, 1, 2, 3, 0),
		[]impl.Op{opOf(impl.OpSet, 0, 4)},
		[]impl.Op{opOf(impl.OpSet, 1, 4)},
		[]impl.Op{opOf(impl.OpSet, 2, 4)},
		[]impl.Op{opOf(impl.OpScan, 0, 0)},
	)
	// Each of the first three has read all and laid the mark of its row, the first one two more.
	for who := range 3 {
		for m.Mem.Descs[who].Seq == 0 {
			m = runAll(t, m, who)
		}
		m = runAll(t, m, who)
	}
	m = runAll(t, m, 0, 0)
	marks := 0
	for _, w := range m.Mem.Words {
		if w.T != 0 {
			marks++
		}
	}
	if marks != 5 {
		t.Fatalf("%d marks are laid: %v", marks, m)
	}
	for who := range m.Threads {
		then := checkGetsDone(t, m, who)
		if who == 3 && (len(then.Order) != 2 || !slices.Equal(then.Calls[3].Res.List, []int{4, 2, 3, 0})) {
			t.Errorf("the scan alone: %v", then)
		}
		then = impl.Fair(then, 200)
		checkOver(t, then)
	}
}

// running is Play, Alone or Fair, asked of a machine, with who goes on where that is a list.
type running struct {
	name string
	call func(m impl.Machine, who []int) impl.Machine
}

func runnings() []running {
	list := []running{{"Play", impl.Play}}
	for _, n := range []int{0, 9} {
		list = append(list, running{fmt.Sprint("Fair by ", n), func(m impl.Machine, who []int) impl.Machine { return impl.Fair(m, n) }})
		for _, w := range []int{-1, 0, 2} {
			list = append(list, running{fmt.Sprint("Alone of ", w, " by ", n), func(m impl.Machine, who []int) impl.Machine { return impl.Alone(m, w, n) }})
		}
	}
	return list
}

// whoLists has lists of who is to go on, among them such as turn nothing.
func whoLists() [][]int {
	return [][]int{nil, {}, {1}, {-1, 5}, {0, 1, 2, 0, 1, 2, 0, 1, 2, 7, 2, 2, 0}, slices.Repeat([]int{0}, 2001)}
}

func TestRunSharesNothing(t *testing.T) {
	for i, m := range someMachines(t) {
		for _, r := range runnings() {
			for j, who := range whoLists() {
				// Only Play goes by a list, and to look at a long one takes long.
				if j > 0 && r.name != "Play" || len(who) > 100 && i%10 != 0 {
					continue
				}
				checkSpansApart(t, fmt.Sprint(r.name, " of machine ", i, ", list ", j), func(look func([]span)) asked {
					given, list := roomyMachine(m), roomy(who, 1)
					spans := append(spansOf(given), plainSpan(list, 2))
					look(spans)
					return asked{spans, spansOf(r.call(given, list))}
				})
			}
		}
	}
}

// What stands behind lists does not count, and nothing is kept: the same is answered of the same, also where many ask at once.
func TestRunAnswersTheSameAtEachCall(t *testing.T) {
	list := someMachines(t)
	who := []int{0, 1, 2, 2, 1, 0, 0, -1, 1, 3, 1}
	var all sync.WaitGroup
	for range 4 {
		all.Go(func() {
			for i, m := range list {
				if got := impl.Play(roomyMachine(m), roomy(who, 0)); !machineSame(got, playTold(m, who)) {
					t.Errorf("machine %d: Play: %v", i, got)
				}
				if got := impl.Alone(roomyMachine(m), 1, 30); !machineSame(got, aloneTold(m, 1, 30)) {
					t.Errorf("machine %d: Alone: %v", i, got)
				}
				if got := impl.Fair(roomyMachine(m), 6); !machineSame(got, fairTold(m, 6)) {
					t.Errorf("machine %d: Fair: %v", i, got)
				}
			}
		})
	}
	all.Wait()
}

// The lists of what is answered are apart also where those given are one.
func TestRunAnswersListsApart(t *testing.T) {
	for i, m := range someMachines(t) {
		one := withOneList(m)
		for _, r := range runnings() {
			checkSpansApart(t, fmt.Sprint(r.name, " of machine ", i), func(look func([]span)) asked {
				look(nil)
				return asked{nil, spansOf(r.call(one, []int{-1}))}
			})
		}
	}
}

// When a run is answered nobody is left who works at it.
func TestRunLeavesNobodyBehind(t *testing.T) {
	before := runtime.NumGoroutine()
	for _, m := range someMachines(t) {
		for _, r := range runnings() {
			r.call(m, []int{0, 1, 2, 1, 0})
		}
	}
	// Who has said that it is over may still be on its way out.
	for range 1000 {
		if runtime.NumGoroutine() <= before {
			return
		}
		time.Sleep(time.Millisecond)
	}
	t.Errorf("%d goroutines, %d before", runtime.NumGoroutine(), before)
}
