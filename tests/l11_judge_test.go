package tests

import (
	"fmt"
	"math"
	"slices"
	"sync"
	"testing"

	"loop.example/g00468/impl"
)

// Promise 11: whoever goes on when: each op is so at one moment while it was asked; the ways to rows are just the rows.

// replayTold answers by the document's words what the rows of m are, and whether each call of Order was so.
func replayTold(m impl.Machine) (impl.Rows, bool) {
	if !machineTold(m) {
		return impl.Rows{}, false
	}
	return rowsOfOrder(m)
}

// rowsOfOrder needs of m the calls, Order and First alone.
func rowsOfOrder(m impl.Machine) (impl.Rows, bool) {
	r, so := m.First, true
	for _, n := range m.Order {
		c := m.Calls[n]
		list, may := mayCome(r, c.Op, c.Res.Code)
		so = so && may && slices.Equal(list, c.Res.List)
		r = afterTold(r, c.Op, c.Res)
	}
	return r, so
}

func wordsAreTold(m impl.Machine) bool {
	if !machineTold(m) {
		return false
	}
	r, _ := replayTold(m)
	for place, n := range wordsTold(r.Held, r.State) {
		if meantTold(m.Mem.Words, m.Mem.Descs, place) != n {
			return false
		}
	}
	return true
}

func timesTold(m impl.Machine) bool {
	if !machineTold(m) {
		return false
	}
	for n, c := range m.Calls {
		if c.End >= 0 && (c.Lin < c.Start || c.Lin > c.End) {
			return false
		}
		for _, later := range m.Calls[n+1:] {
			if later.T == c.T && later.Start <= c.End {
				return false
			}
		}
	}
	return true
}

// judgement is what all functions of the chapter answer, but JudgeAll.
type judgement struct {
	rows  impl.Rows
	so    bool
	words bool
	times bool
}

func judgedTold(m impl.Machine) judgement {
	r, so := replayTold(m)
	return judgement{r, so, wordsAreTold(m), timesTold(m)}
}

func rowsSame(a impl.Rows, b impl.Rows) bool {
	return slices.Equal(a.Held, b.Held) && a.State == b.State
}

// checkJudged asks all functions of the chapter.
func checkJudged(t *testing.T, name string, m impl.Machine, want judgement) {
	t.Helper()
	r, so := impl.Replay(m)
	if !rowsSame(r, want.rows) || so != want.so {
		t.Fatalf("%s: Replay(%v) = %v, %v, want %v, %v", name, m, r, so, want.rows, want.so)
	}
	if got := impl.JudgeSo(m); got != want.so {
		t.Fatalf("%s: JudgeSo(%v) = %v", name, m, got)
	}
	if got := impl.JudgeWords(m); got != want.words {
		t.Fatalf("%s: JudgeWords(%v) = %v", name, m, got)
	}
	if got := impl.JudgeTimes(m); got != want.times {
		t.Fatalf("%s: JudgeTimes(%v) = %v", name, m, got)
	}
	if got := impl.JudgeAll(m); got != (want.so && want.words && want.times) {
		t.Fatalf("%s: JudgeAll(%v) = %v, of %v", name, m, got, want)
	}
}

// checkAllSo asks that all holds of m, with these rows.
func checkAllSo(t *testing.T, name string, m impl.Machine, want impl.Rows) {
	t.Helper()
	checkJudged(t, name, m, judgement{want, true, true, true})
}

// checkNothingSo asks that m, which is not MachineOk, has no rows, and that nothing holds of it.
func checkNothingSo(t *testing.T, name string, m impl.Machine) {
	t.Helper()
	checkMachineOk(t, name, m, false)
	checkJudged(t, name, m, judgement{})
}

func callOf(thread int, o impl.Op, start int, lin int, end int, s impl.Res) impl.Call {
	return impl.Call{T: thread, Op: o, Start: start, Lin: lin, End: end, Res: s}
}

// history has a machine at the time 60 that has had these calls. Its threads fit to them, they stand in Order as they were so, and its words are those of the rows that come of them.
func history(t *testing.T, first impl.Rows, calls ...impl.Call) impl.Machine {
	t.Helper()
	m := impl.Machine{Time: 60, Calls: calls, First: first, Threads: idle(2)}
	for n, c := range calls {
		x := &m.Threads[c.T]
		x.Ops = append(x.Ops, c.Op)
		if c.End >= 0 {
			x.Pc++
		} else {
			x.On = true
		}
		if c.Lin >= 0 {
			m.Order = append(m.Order, n)
		}
	}
	slices.SortStableFunc(m.Order, func(a int, b int) int { return calls[a].Lin - calls[b].Lin })
	m.Mem.Descs = make([]impl.Desc, len(m.Threads))
	r, _ := rowsOfOrder(m)
	for _, n := range wordsTold(r.Held, r.State) {
		m.Mem.Words = append(m.Mem.Words, numOf(n))
	}
	checkMachineOk(t, "history", m, true)
	return apart(m)
}

func TestJudgeOfNewMachines(t *testing.T) {
	for i, r := range everyRows() {
		m := newMachine(t, r, slices.Repeat([][]impl.Op{manyOps(i % 9)}, 1+i%4)...)
		checkAllSo(t, "new", m, r)
	}
}

// Two calls are open, of which one was so already and one was not; one was told.
func TestReplayInTheMiddleOfARun(t *testing.T) {
	m := newMachine(t, rowsOf(2, 5, 0, 0, 0), []impl.Op{opOf(impl.OpPut, 1, 3)}, []impl.Op{opOf(impl.OpGet, 0, 0)}, []impl.Op{opOf(impl.OpDel, 0, 0)})
	before, after := rowsOf(2, 5, 0, 0, 0), rowsOf(2, 5, 3, 0, 0)
	m = runAll(t, m, 2, 2, 1, 1)
	checkAllSo(t, "one was told", m, before)
	// The put begins, reads four words and lays four marks.
	for range 9 {
		m = runAll(t, m, 0)
		checkAllSo(t, "the put is open", m, before)
	}
	m = runAll(t, m, 0)
	if m.Mem.Descs[0].Status != impl.DcYes || m.Calls[0].Lin != -1 || m.Calls[2].Lin != m.Time || m.Calls[2].End != -1 || !slices.Equal(m.Order, []int{1, 2}) {
		t.Fatalf("told: %v", m)
	}
	// It is so, and stays so while its marks are taken away and until it is told.
	checkAllSo(t, "the put was so", m, after)
	for !impl.ThreadDone(m.Threads[0]) {
		m = runAll(t, m, 0)
		checkAllSo(t, "the put was so", m, after)
	}
	m = impl.Fair(m, 200)
	if !impl.Finished(m) {
		t.Fatalf("not told: %v", m)
	}
	checkAllSo(t, "finished", m, rowsOf(2, 0, 3, 0, 0))
}

func TestReplayOfFinishedMachines(t *testing.T) {
	m := newMachine(t, rowsOf(1, 0, 2, 0, 0),
		[]impl.Op{opOf(impl.OpPut, 0, 1), opOf(impl.OpPut, 0, 5), opOf(impl.OpPut, 2, 2), opOf(impl.OpSet, 0, 4), opOf(impl.OpSet, 3, 6), opOf(impl.OpSet, 1, 4), opOf(impl.OpDel, 3, 0), opOf(impl.OpDel, 1, 0)},
		[]impl.Op{opOf(impl.OpGet, 0, 0), opOf(impl.OpFind, 0, 4), opOf(impl.OpCount, 1, 0), opOf(impl.OpScan, 0, 0), opOf(impl.OpOpen, 0, 0), opOf(impl.OpVia, 0, 4), opOf(impl.OpMake, 0, 0), opOf(impl.OpMake, 0, 0)},
	)
	for who := range m.Threads {
		for !impl.ThreadDone(m.Threads[who]) {
			m = impl.Alone(m, who, 800)
		}
	}
	checkAllSo(t, "one behind the other", m, rowsOf(3, 4, 0, 0, 0))
	for i := range 20 {
		d := dice(i)
		m := impl.Fair(anyMachine(t, &d, 1+i%4, 8), 2000)
		if !impl.Finished(m) {
			t.Fatalf("not told: %v", m)
		}
		// Where nobody is at anything the rows are what the words say.
		held := []int{}
		for k := range 4 {
			held = append(held, m.Mem.Words[k].N)
		}
		checkAllSo(t, "any", m, rowsOf(m.Mem.Words[13].N, held...))
	}
}

// threePuts has the calls of three puts of one thread, with what came of them.
func threePuts(res [3]impl.Res) []impl.Call {
	calls := []impl.Call{}
	for i, s := range res {
		calls = append(calls, callOf(0, opOf(impl.OpPut, i, i+1), 10*i+1, 10*i+2, 10*i+3, s))
	}
	return calls
}

// One call of three of which it may not come: it turns nothing, those behind it are gone through still, and it is false.
func TestReplayOfWhatMayNotCome(t *testing.T) {
	rows := [3]impl.Rows{rowsOf(0, 0, 2, 3, 0), rowsOf(0, 1, 0, 3, 0), rowsOf(0, 1, 2, 0, 0)}
	checkAllSo(t, "all were so", history(t, impl.RowsNew(), threePuts([3]impl.Res{})...), rowsOf(0, 1, 2, 3, 0))
	for _, s := range []impl.Res{resOf(1), resOf(2), resOf(3), resOf(4), resOf(5), resOf(-1), resOf(math.MinInt), resOf(math.MaxInt), resOf(0, 0), resOf(0, 1, 2)} {
		for wrong, want := range rows {
			res := [3]impl.Res{}
			res[wrong] = s
			m := history(t, impl.RowsNew(), threePuts(res)...)
			checkJudged(t, fmt.Sprint("call ", wrong, " told ", s), m, judgement{want, false, true, true})
		}
	}
	// Two of them, and all.
	none := resOf(impl.RsNone)
	checkJudged(t, "the first two", history(t, impl.RowsNew(), threePuts([3]impl.Res{none, none, {}})...), judgement{rowsOf(0, 0, 0, 3, 0), false, true, true})
	checkJudged(t, "all", history(t, impl.RowsNew(), threePuts([3]impl.Res{none, none, none})...), judgement{impl.RowsNew(), false, true, true})
}

// threeCalls has a machine of three calls of one thread, one behind the other, with what came of them.
func threeCalls(t *testing.T, first impl.Rows, ops [3]impl.Op, res [3]impl.Res) impl.Machine {
	t.Helper()
	calls := []impl.Call{}
	for i, o := range ops {
		calls = append(calls, callOf(1, o, 4*i, 4*i+2, 4*i+3, res[i]))
	}
	return history(t, first, calls...)
}

func TestReplayOfWhatWasNotSo(t *testing.T) {
	put, set, del, get, scan := opOf(impl.OpPut, 0, 1), opOf(impl.OpSet, 0, 2), opOf(impl.OpDel, 0, 0), opOf(impl.OpGet, 0, 0), opOf(impl.OpScan, 0, 0)
	open, add := opOf(impl.OpOpen, 0, 0), opOf(impl.OpMake, 0, 0)
	done, none, not := resOf(impl.RsDone), resOf(impl.RsNone), resOf(impl.RsNot)
	for _, c := range []struct {
		name  string
		first impl.Rows
		ops   [3]impl.Op
		res   [3]impl.Res
		want  impl.Rows
		so    bool
	}{
		{"a row comes and goes", impl.RowsNew(), [3]impl.Op{put, set, del}, [3]impl.Res{done, done, done}, impl.RowsNew(), true},
		{"it goes first", rowsOf(0, 3, 0, 0, 0), [3]impl.Op{del, put, get}, [3]impl.Res{done, done, resOf(0, 1)}, rowsOf(0, 1, 0, 0, 0), true},
		{"the put is not done: there is nothing to set, nor to get", impl.RowsNew(), [3]impl.Op{put, set, get}, [3]impl.Res{resOf(impl.RsThere), done, resOf(0, 2)}, impl.RowsNew(), false},
		{"the put is not done: there is nothing to set, which is so", impl.RowsNew(), [3]impl.Op{put, set, get}, [3]impl.Res{resOf(impl.RsThere), none, none}, impl.RowsNew(), false},
		{"done twice: the second one turns nothing", impl.RowsNew(), [3]impl.Op{put, opOf(impl.OpPut, 0, 5), get}, [3]impl.Res{done, done, resOf(0, 1)}, rowsOf(0, 1, 0, 0, 0), false},
		{"what is held is taken by another one", rowsOf(0, 0, 1, 0, 0), [3]impl.Op{put, get, get}, [3]impl.Res{done, none, none}, rowsOf(0, 0, 1, 0, 0), false},
		{"a get tells what will be, first", rowsOf(0, 3, 0, 0, 0), [3]impl.Op{get, set, get}, [3]impl.Res{resOf(0, 2), done, resOf(0, 2)}, rowsOf(0, 2, 0, 0, 0), false},
		{"a get tells what will be, between", rowsOf(0, 3, 0, 0, 0), [3]impl.Op{get, get, set}, [3]impl.Res{resOf(0, 3), resOf(0, 2), done}, rowsOf(0, 2, 0, 0, 0), false},
		{"a get tells what was, last", rowsOf(0, 3, 0, 0, 0), [3]impl.Op{get, set, get}, [3]impl.Res{resOf(0, 3), done, resOf(0, 3)}, rowsOf(0, 2, 0, 0, 0), false},
		{"each of the gets tells what was then", rowsOf(0, 3, 0, 0, 0), [3]impl.Op{get, set, get}, [3]impl.Res{resOf(0, 3), done, resOf(0, 2)}, rowsOf(0, 2, 0, 0, 0), true},
		{"a scan tells what was half", rowsOf(0, 3, 4, 0, 0), [3]impl.Op{set, opOf(impl.OpSet, 1, 5), scan}, [3]impl.Res{done, done, resOf(0, 2, 4, 0, 0)}, rowsOf(0, 2, 5, 0, 0), false},
		{"a scan tells what is", rowsOf(0, 3, 4, 0, 0), [3]impl.Op{set, opOf(impl.OpSet, 1, 5), scan}, [3]impl.Res{done, done, resOf(0, 2, 5, 0, 0)}, rowsOf(0, 2, 5, 0, 0), true},
		{"the other way is made", rowsOf(0, 6, 0, 0, 0), [3]impl.Op{open, add, add}, [3]impl.Res{done, done, done}, rowsOf(3, 6, 0, 0, 0), true},
		{"it was not begun", rowsOf(0, 6, 0, 0, 0), [3]impl.Op{open, add, add}, [3]impl.Res{not, done, done}, rowsOf(0, 6, 0, 0, 0), false},
		{"it was whole already", rowsOf(4, 6, 0, 0, 0), [3]impl.Op{add, add, opOf(impl.OpVia, 0, 6)}, [3]impl.Res{done, done, resOf(0, 0)}, rowsOf(5, 6, 0, 0, 0), false},
		{"it was whole", rowsOf(4, 6, 0, 0, 0), [3]impl.Op{add, add, opOf(impl.OpVia, 0, 6)}, [3]impl.Res{done, not, resOf(0, 0)}, rowsOf(5, 6, 0, 0, 0), true},
	} {
		checkJudged(t, c.name, threeCalls(t, c.first, c.ops, c.res), judgement{c.want, c.so, true, true})
	}
}

// What counts is Order: not in which order the calls began, nor in which they ended.
func TestReplayGoesByOrder(t *testing.T) {
	first, second := opOf(impl.OpPut, 0, 1), opOf(impl.OpPut, 1, 1)
	taken, done := resOf(impl.RsTaken), resOf(impl.RsDone)
	m := history(t, impl.RowsNew(), callOf(0, first, 1, 20, 21, taken), callOf(1, second, 2, 10, 30, done))
	checkAllSo(t, "the later one was so ahead", m, rowsOf(0, 0, 1, 0, 0))
	m = history(t, impl.RowsNew(), callOf(0, first, 1, 20, 21, done), callOf(1, second, 2, 10, 30, taken))
	checkJudged(t, "the later one could not be refused yet", m, judgement{rowsOf(0, 1, 0, 0, 0), false, true, true})
	// Both were so at one time: either may be ahead.
	m = history(t, impl.RowsNew(), callOf(0, first, 1, 9, 21, taken), callOf(1, second, 2, 9, 30, done))
	checkJudged(t, "refused ahead", m, judgement{rowsOf(0, 0, 1, 0, 0), false, true, true})
	m.Order = []int{1, 0}
	checkAllSo(t, "refused behind", m, rowsOf(0, 0, 1, 0, 0))
}

// A call that is open counts where it was so; one that was not so does not, also where it ended.
func TestReplayOfOpenCalls(t *testing.T) {
	put, get := opOf(impl.OpPut, 0, 1), opOf(impl.OpGet, 0, 0)
	done := resOf(impl.RsDone)
	for _, c := range []struct {
		name  string
		calls []impl.Call
		want  judgement
	}{
		{"open and so", []impl.Call{callOf(0, put, 1, 5, -1, done), callOf(1, get, 2, 6, 7, resOf(0, 1))}, judgement{rowsOf(0, 1, 0, 0, 0), true, true, true}},
		{"open and so, the get ahead of it", []impl.Call{callOf(0, put, 1, 5, -1, done), callOf(1, get, 2, 4, 7, resOf(impl.RsNone))}, judgement{rowsOf(0, 1, 0, 0, 0), true, true, true}},
		{"open and so by what may not come", []impl.Call{callOf(0, put, 1, 5, -1, resOf(impl.RsNot)), callOf(1, get, 2, 6, 7, resOf(impl.RsNone))}, judgement{impl.RowsNew(), false, true, true}},
		{"open and not so", []impl.Call{callOf(0, put, 1, -1, -1, done), callOf(1, get, 2, 6, 7, resOf(impl.RsNone))}, judgement{impl.RowsNew(), true, true, true}},
		{"open and not so, but got", []impl.Call{callOf(0, put, 1, -1, -1, done), callOf(1, get, 2, 6, 7, resOf(0, 1))}, judgement{impl.RowsNew(), false, true, true}},
		{"open and not so, with what may not come", []impl.Call{callOf(0, put, 1, -1, -1, resOf(7, 7))}, judgement{impl.RowsNew(), true, true, true}},
		{"all are open, none was so", []impl.Call{callOf(0, put, 1, -1, -1, done), callOf(1, put, 1, -1, -1, done)}, judgement{impl.RowsNew(), true, true, true}},
		{"all are open, both were so", []impl.Call{callOf(0, put, 1, 60, -1, done), callOf(1, put, 1, 60, -1, resOf(impl.RsThere))}, judgement{rowsOf(0, 1, 0, 0, 0), true, true, true}},
		{"ended and not so", []impl.Call{callOf(0, put, 1, -1, 5, done), callOf(1, get, 2, 6, 7, resOf(impl.RsNone))}, judgement{impl.RowsNew(), true, true, false}},
		{"ended and not so, with what may not come", []impl.Call{callOf(0, put, 1, -1, 5, resOf(9))}, judgement{impl.RowsNew(), true, true, false}},
	} {
		checkJudged(t, c.name, history(t, impl.RowsNew(), c.calls...), c.want)
	}
}

func TestJudgeOfWrongMachines(t *testing.T) {
	for i, m := range wrongMachines() {
		checkNothingSo(t, fmt.Sprint("wrong machine ", i), m)
	}
	// All would hold of these, were they not wrong elsewhere.
	good := impl.Fair(puts(t), 200)
	checkAllSo(t, "good", good, judgedTold(good).rows)
	for i, turn := range []func(m *impl.Machine){
		func(m *impl.Machine) { m.Time = 100001 },
		func(m *impl.Machine) { m.Threads[0].Pc-- },
		func(m *impl.Machine) { m.Threads[0].Got = pairsOf(1, 1) },
		func(m *impl.Machine) { m.Mem.Descs[0].Seq = 1000001 },
		func(m *impl.Machine) {
			m.Mem.Descs, m.Threads = append(m.Mem.Descs, impl.Desc{}), append(m.Threads, idle(2)...)
		},
		func(m *impl.Machine) { m.Mem.Words = append(m.Mem.Words, numOf(0)) },
		func(m *impl.Machine) { m.Order = m.Order[:len(m.Order)-1] },
		func(m *impl.Machine) { m.Order[0] = -1 },
		func(m *impl.Machine) { m.Order[0] = math.MaxInt },
		func(m *impl.Machine) { m.Order = append(m.Order, m.Order[0]) },
		func(m *impl.Machine) { m.Calls[0].T = 3 },
		func(m *impl.Machine) { m.Calls[0].Start = -1 },
		func(m *impl.Machine) { m.Calls[0].Op = opOf(impl.OpPut, 1, 7) },
		func(m *impl.Machine) { m.First.Held = append(m.First.Held, 0) },
		func(m *impl.Machine) { m.First.Held = nil },
		func(m *impl.Machine) { m.First.State = 6 },
	} {
		checkNothingSo(t, fmt.Sprint("turn ", i), turned(good, turn))
	}
}

// marked has machines in the middle of a run, each with marks in its words, by the status of the try whose marks they are.
func marked(t *testing.T) map[int][]impl.Machine {
	t.Helper()
	m := newMachine(t, rowsOf(5, 4, 0, 0, 2), []impl.Op{opOf(impl.OpSet, 0, 6)}, []impl.Op{opOf(impl.OpPut, 1, 6)}, []impl.Op{opOf(impl.OpDel, 3, 0)})
	list := map[int][]impl.Machine{}
	// Both read all; the set is done, then the put tries by what it read, and is not done.
	for _, who := range []int{1, 0, 1} {
		for range 40 {
			if who == 1 && m.Mem.Descs[0].Seq == 0 && m.Mem.Descs[1].Seq == 1 || impl.ThreadDone(m.Threads[who]) {
				break
			}
			m = runAll(t, m, who)
			for i, d := range m.Mem.Descs {
				if slices.ContainsFunc(m.Mem.Words, func(w impl.Word) bool { return w.T == i+1 }) {
					list[d.Status] = append(list[d.Status], m)
				}
			}
		}
	}
	for _, status := range []int{impl.DcOpen, impl.DcYes, impl.DcNo} {
		if len(list[status]) == 0 {
			t.Fatalf("no marks of a try that is %d: %v", status, m)
		}
	}
	return list
}

func TestJudgeWordsOfMarks(t *testing.T) {
	for status, list := range marked(t) {
		for _, m := range list {
			want := rowsOf(5, 4, 0, 0, 2)
			if len(m.Order) > 0 {
				want = rowsOf(5, 6, 0, 0, 2)
			}
			checkAllSo(t, fmt.Sprint("marks of ", status), m, want)
			for place, w := range m.Mem.Words {
				if w.T != 0 {
					checkMarkMeans(t, m, place)
				}
			}
		}
	}
}

// checkMarkMeans asks that of the entry whose mark stands at a place just that counts which the mark means.
func checkMarkMeans(t *testing.T, m impl.Machine, place int) {
	t.Helper()
	w, r := m.Mem.Words[place], judgedTold(m).rows
	status := m.Mem.Descs[w.T-1].Status
	entry := func(m *impl.Machine) *impl.Entry {
		list := m.Mem.Descs[w.T-1].List
		return &list[slices.IndexFunc(list, func(e impl.Entry) bool { return e.At == place })]
	}
	other := turned(m, func(m *impl.Machine) { entry(m).Old += 7 })
	checkJudged(t, "another Old", other, judgement{r, true, status == impl.DcYes, true})
	other = turned(m, func(m *impl.Machine) { entry(m).New += 7 })
	checkJudged(t, "another New", other, judgement{r, true, status != impl.DcYes, true})
	n := meantTold(m.Mem.Words, m.Mem.Descs, place)
	other = turned(m, func(m *impl.Machine) { m.Mem.Words[place] = numOf(n) })
	checkAllSo(t, "the number that is meant", other, r)
	other = turned(m, func(m *impl.Machine) { m.Mem.Words[place] = numOf(n + 1) })
	checkJudged(t, "another number", other, judgement{r, true, false, true})
}

// A try that is taken for done, or for not done, while nothing in Order says so.
func TestJudgeWordsOfAnotherStatus(t *testing.T) {
	for status, list := range marked(t) {
		for _, m := range list {
			for i, d := range m.Mem.Descs {
				for to := impl.DcOpen; to <= impl.DcNo && d.Seq > 0; to++ {
					other := turned(m, func(m *impl.Machine) { m.Mem.Descs[i].Status = to })
					// It counts only where what is meant is another then.
					want := slices.Equal(meansOf(m.Mem), meansOf(other.Mem))
					checkJudged(t, fmt.Sprint("marks of ", status, ", thread ", i, " is ", to), other, judgement{judgedTold(m).rows, true, want, true})
				}
			}
		}
	}
	m := marked(t)[impl.DcYes][0]
	none := turned(m, func(m *impl.Machine) { m.Mem.Descs[0].Status = impl.DcOpen })
	checkJudged(t, "the set is not done", none, judgement{rowsOf(5, 6, 0, 0, 2), true, false, true})
}

// One word is another number than the rows have.
func TestJudgeWordsOfEachWord(t *testing.T) {
	list := []impl.Machine{
		newMachine(t, impl.RowsNew(), manyOps(2)),
		newMachine(t, rowsOf(5, 1, 2, 3, 4), manyOps(2)),
		history(t, rowsOf(3, 5, 6, 0, 1), threePuts([3]impl.Res{resOf(1), resOf(1), resOf(0)})...),
		impl.Fair(puts(t), 200),
	}
	for _, some := range marked(t) {
		list = append(list, some...)
	}
	for _, m := range list {
		r := judgedTold(m).rows
		checkAllSo(t, "as it is", m, r)
		for place, w := range m.Mem.Words {
			if w.T != 0 {
				continue
			}
			for n := range 8 {
				other := turned(m, func(m *impl.Machine) { m.Mem.Words[place].N = n })
				checkJudged(t, fmt.Sprint("word ", place, " is ", n), other, judgement{r, true, n == w.N, true})
			}
			other := turned(m, func(m *impl.Machine) { m.Mem.Words[place].N = 1000 })
			checkJudged(t, fmt.Sprint("word ", place, " is 1000"), other, judgement{r, true, false, true})
			other.Mem.Words[place].N = 1001
			checkNothingSo(t, fmt.Sprint("word ", place, " is 1001"), other)
		}
	}
}

// Words of other rows are no more the words of these, though each way in them is right.
func TestJudgeWordsOfOtherRows(t *testing.T) {
	m := newMachine(t, rowsOf(3, 1, 0, 5, 0), manyOps(2))
	for i, r := range everyRows() {
		if i%7 != 0 {
			continue
		}
		same := rowsSame(r, m.First)
		words := turned(m, func(m *impl.Machine) { m.Mem.Words = newMachine(t, r, nil).Mem.Words })
		checkJudged(t, "other words", words, judgement{m.First, true, same, true})
		first := turned(m, func(m *impl.Machine) { m.First = r })
		checkJudged(t, "other rows at first", first, judgement{r, true, same, true})
	}
}

// It does not count for the words whether each call may have been so: rows come of all of them.
func TestJudgeWordsOfWhatWasNotSo(t *testing.T) {
	put, get := opOf(impl.OpPut, 0, 1), opOf(impl.OpGet, 0, 0)
	m := history(t, impl.RowsNew(), callOf(0, put, 1, 2, 3, resOf(impl.RsDone)), callOf(1, get, 1, 4, 5, resOf(0, 6)))
	checkJudged(t, "a get", m, judgement{rowsOf(0, 1, 0, 0, 0), false, true, true})
	// The words have the row, but by what the put told there is none.
	other := turned(m, func(m *impl.Machine) { m.Calls[0].Res = resOf(impl.RsTaken) })
	checkJudged(t, "a put", other, judgement{impl.RowsNew(), false, false, true})
}

func TestJudgeTimesOfOneCall(t *testing.T) {
	get := opOf(impl.OpGet, 0, 0)
	for _, c := range []struct {
		name            string
		start, lin, end int
		want            bool
	}{
		{"so at its Start", 10, 10, 20, true},
		{"so between", 10, 15, 20, true},
		{"so at its End", 10, 20, 20, true},
		{"so at once", 10, 10, 10, true},
		{"so at first", 0, 0, 0, true},
		{"so at last", 60, 60, 60, true},
		{"all the time", 0, 30, 60, true},
		{"not so", 10, -1, 20, false},
		{"not so, told at once", 10, -1, 10, false},
		{"not so, told at first", 0, -1, 0, false},
		{"so one behind its End", 10, 21, 20, false},
		{"so one behind, told at once", 10, 11, 10, false},
		{"so now, behind its End", 10, 60, 20, false},
		{"so now, one behind its End", 10, 60, 59, false},
		{"open, not so", 10, -1, -1, true},
		{"open, so at its Start", 10, 10, -1, true},
		{"open, so between", 10, 40, -1, true},
		{"open, so now", 10, 60, -1, true},
		{"open, begun now", 60, -1, -1, true},
		{"open, begun at first", 0, 0, -1, true},
	} {
		for who := range 2 {
			other := callOf(1-who, get, 5, 6, 7, resOf(impl.RsNone))
			call := callOf(who, get, c.start, c.lin, c.end, resOf(impl.RsNone))
			for _, calls := range [][]impl.Call{{call}, {call, other}, {other, call}} {
				checkJudged(t, c.name, history(t, impl.RowsNew(), calls...), judgement{impl.RowsNew(), true, true, c.want})
			}
		}
	}
	// Ahead of its Start, or later than it is, no call of a machine is so.
	for _, c := range []impl.Call{callOf(0, get, 10, 9, 20, resOf(3)), callOf(0, get, 10, 61, 20, resOf(3)), callOf(0, get, 10, 15, 9, resOf(3)), callOf(0, get, 10, 15, 61, resOf(3)), callOf(0, get, 10, -2, -1, resOf(3))} {
		checkNothingSo(t, "no machine", turned(history(t, impl.RowsNew(), callOf(0, get, 10, 15, 20, resOf(3))), func(m *impl.Machine) { m.Calls[0] = c }))
	}
}

func TestJudgeTimesOfTwoCalls(t *testing.T) {
	get, none := opOf(impl.OpGet, 0, 0), resOf(impl.RsNone)
	for start := range 61 {
		first := callOf(0, get, 10, 12, 20, none)
		for _, second := range []impl.Call{
			callOf(0, get, start, start, start, none),
			callOf(0, get, start, 60, 60, none),
			callOf(0, get, start, -1, -1, none),
			callOf(0, get, start, 60, -1, none),
		} {
			// At the moment at which a call ends its thread is not yet behind it.
			m := history(t, impl.RowsNew(), first, second)
			checkJudged(t, fmt.Sprint("of one thread, at ", start), m, judgement{impl.RowsNew(), true, true, start > 20})
			// Nothing is asked of calls of two threads.
			second.T = 1
			m = history(t, impl.RowsNew(), first, second)
			checkJudged(t, fmt.Sprint("of two threads, at ", start), m, judgement{impl.RowsNew(), true, true, true})
			// What another thread began between does not count.
			between := callOf(1, get, 2, 3, 50, none)
			second.T = 0
			m = history(t, impl.RowsNew(), first, between, second)
			checkJudged(t, fmt.Sprint("with another one between, at ", start), m, judgement{impl.RowsNew(), true, true, start > 20})
		}
	}
	at := callOf(0, get, 0, 0, 0, none)
	checkJudged(t, "both at first", history(t, impl.RowsNew(), at, at), judgement{impl.RowsNew(), true, true, false})
	checkAllSo(t, "one at first", history(t, impl.RowsNew(), at, callOf(0, get, 1, 1, 1, none)), impl.RowsNew())
	checkJudged(t, "one at first, the next one is open", history(t, impl.RowsNew(), at, callOf(0, get, 0, -1, -1, none)), judgement{impl.RowsNew(), true, true, false})
}

// Of three calls of one thread each stands behind the one ahead of it, whatever those of the other one are.
func TestJudgeTimesOfThreeCalls(t *testing.T) {
	get, none := opOf(impl.OpGet, 0, 0), resOf(impl.RsNone)
	for i := range 4 * 4 * 4 {
		starts := []int{10 + i%4, 13 + i/4%4, 16 + i/16}
		calls, want := []impl.Call{}, true
		for n, start := range starts {
			end := start + 2
			if n > 0 && start <= starts[n-1]+2 {
				want = false
			}
			calls = append(calls, callOf(0, get, start, start+1, end, none), callOf(1, get, 20*n, 20*n, 20*n+1, none))
		}
		checkJudged(t, fmt.Sprint("three calls at ", starts), history(t, impl.RowsNew(), calls...), judgement{impl.RowsNew(), true, true, want})
	}
}

// Each of the three is false alone, two of them are, and all; and none is.
func TestJudgeAll(t *testing.T) {
	put, get := opOf(impl.OpPut, 0, 1), opOf(impl.OpGet, 0, 0)
	for i := range 8 {
		so, words, times := i&1 == 0, i&2 == 0, i&4 == 0
		m := history(t, impl.RowsNew(), callOf(0, put, 1, 2, 3, resOf(impl.RsDone)), callOf(1, get, 4, 10, 20, resOf(0, 1)))
		if !so {
			m.Calls[1].Res = resOf(impl.RsNone)
		}
		if !words {
			m.Mem.Words[4].N = 2
		}
		if !times {
			m.Calls[1].End = 9
		}
		checkJudged(t, fmt.Sprint("so, words, times ", so, words, times), m, judgement{rowsOf(0, 1, 0, 0, 0), so, words, times})
	}
	checkNothingSo(t, "zero", impl.Machine{})
}

// rowsMeant has what the words of m say of rows, and asks that each way in them is just those.
func rowsMeant(t *testing.T, m impl.Machine) impl.Rows {
	t.Helper()
	words := []int{}
	for place := range m.Mem.Words {
		words = append(words, meantTold(m.Mem.Words, m.Mem.Descs, place))
	}
	r := rowsOf(words[13], words[:4]...)
	if !holdsOk(r.Held) || r.State < 0 || r.State > 5 || !slices.Equal(words, wordsTold(r.Held, r.State)) {
		t.Fatalf("the words of %v mean %v", m, words)
	}
	return r
}

// checkMoment asks of a step that the rows turn by a call that is so at that very moment, while it is asked, or not at all; and that all holds behind it.
func checkMoment(t *testing.T, m impl.Machine, then impl.Machine) {
	t.Helper()
	before, after := rowsMeant(t, m), rowsMeant(t, then)
	checkAllSo(t, "behind a step", then, after)
	for n, c := range then.Calls {
		if c.End >= 0 && (c.Lin < c.Start || c.Lin > c.End) {
			t.Fatalf("call %d of %v was not so while it was asked", n, then)
		}
	}
	switch len(then.Order) - len(m.Order) {
	case 0:
		if !rowsSame(before, after) {
			t.Fatalf("no call was so by the step from %v to %v, but the rows %v are %v", m, then, before, after)
		}
	case 1:
		n := then.Order[len(m.Order)]
		c := then.Calls[n]
		list, may := mayCome(before, c.Op, c.Res.Code)
		if !may || !slices.Equal(list, c.Res.List) || c.Lin != then.Time || n < len(m.Calls) && m.Calls[n].End >= 0 || !rowsSame(afterTold(before, c.Op, c.Res), after) {
			t.Fatalf("call %d was so by the step from %v to %v: the rows %v are %v", n, m, then, before, after)
		}
	default:
		t.Fatalf("the step from %v to %v has more than one call so", m, then)
	}
}

// From each state that small crowds can be in all holds behind each step, whoever takes it.
func TestAllIsSoWhoeverGoesOnWhen(t *testing.T) {
	inEachCrowd(t, func(t *testing.T, m impl.Machine) {
		checkAllSo(t, "a state", m, rowsMeant(t, m))
		for who := range m.Threads {
			if then, went := impl.Step(m, who); went {
				checkMoment(t, m, then)
			}
		}
	})
}

// Many ops of up to four threads, in orders that look like any: all holds behind each step, and at the end all was told.
func TestAllIsSoInLongRuns(t *testing.T) {
	d := dice(31)
	for i := range 120 {
		threads := 1 + i%4
		m := anyMachine(t, &d, threads, 8)
		for !impl.Finished(m) {
			for _, who := range anyOrder(&d, threads, 5, 1+i%9) {
				then, went := impl.Step(m, who)
				if went {
					checkMoment(t, m, then)
				}
				m = then
			}
		}
		checkOver(t, m)
	}
}

// Threads are stopped for good, each in the middle of a try, until one goes on alone: all holds behind each step, and still when nobody goes on any more.
func TestAllIsSoWhereSomeAreStopped(t *testing.T) {
	d, so, not := dice(32), 0, 0
	for i := range 120 {
		threads := 2 + i%3
		m := anyMachine(t, &d, threads, 8)
		left := othersThan(m, -1)
		for range 4000 {
			who := left[d.roll(len(left))]
			then, went := impl.Step(m, who)
			if went {
				checkMoment(t, m, then)
			}
			m = then
			if len(left) > 1 && len(m.Threads[who].Stack) > 0 && d.roll(5) == 0 {
				left = slices.DeleteFunc(left, func(w int) bool { return w == who })
			}
			if !slices.ContainsFunc(left, func(w int) bool { return !impl.ThreadDone(m.Threads[w]) }) {
				break
			}
		}
		for _, who := range left {
			if !impl.ThreadDone(m.Threads[who]) {
				t.Fatalf("%d does not get done: %v", who, m)
			}
		}
		for _, c := range m.Calls {
			switch {
			case c.End >= 0:
			case c.Lin >= 0:
				so++
			default:
				not++
			}
		}
	}
	if so < 20 || not < 20 {
		t.Errorf("of the calls that stay open %d were so, %d were not", so, not)
	}
}

// spoils has what can be turned in a machine that may be any, into what it can be and cannot be.
func spoils(m impl.Machine) []func(*impl.Machine) {
	list := []func(*impl.Machine){}
	add := func(of func(m *impl.Machine) *int) {
		for _, by := range []int{-2, -1, 1, 2, 30} {
			list = append(list, func(m *impl.Machine) { *of(m) += by })
		}
	}
	for n, c := range m.Calls {
		add(func(m *impl.Machine) *int { return &m.Calls[n].T })
		add(func(m *impl.Machine) *int { return &m.Calls[n].Op.K })
		add(func(m *impl.Machine) *int { return &m.Calls[n].Op.V })
		add(func(m *impl.Machine) *int { return &m.Calls[n].Start })
		add(func(m *impl.Machine) *int { return &m.Calls[n].Lin })
		add(func(m *impl.Machine) *int { return &m.Calls[n].End })
		add(func(m *impl.Machine) *int { return &m.Calls[n].Res.Code })
		list = append(list, func(m *impl.Machine) { m.Calls[n].Res.List = append(m.Calls[n].Res.List, 0) })
		if len(c.Res.List) > 0 {
			add(func(m *impl.Machine) *int { return &m.Calls[n].Res.List[0] })
			list = append(list, func(m *impl.Machine) { m.Calls[n].Res.List = c.Res.List[1:] })
		}
	}
	for i := 1; i < len(m.Order) && machineTold(m); i++ {
		// The later one is so as early as the one ahead of it, and stands ahead then.
		list = append(list, func(m *impl.Machine) {
			m.Order[i-1], m.Order[i] = m.Order[i], m.Order[i-1]
			m.Calls[m.Order[i-1]].Lin = m.Calls[m.Order[i]].Lin
		})
	}
	for place := range m.Mem.Words {
		add(func(m *impl.Machine) *int { return &m.Mem.Words[place].N })
	}
	for i, d := range m.Mem.Descs {
		add(func(m *impl.Machine) *int { return &m.Mem.Descs[i].Status })
		for j := range d.List {
			add(func(m *impl.Machine) *int { return &m.Mem.Descs[i].List[j].Old })
			add(func(m *impl.Machine) *int { return &m.Mem.Descs[i].List[j].New })
		}
	}
	for k := range m.First.Held {
		add(func(m *impl.Machine) *int { return &m.First.Held[k] })
	}
	add(func(m *impl.Machine) *int { return &m.First.State })
	add(func(m *impl.Machine) *int { return &m.Time })
	return list
}

// Whatever is turned in a machine, it is judged by the document's words.
func TestJudgeOfAllThatIsTurned(t *testing.T) {
	met := map[[3]bool]int{}
	for _, m := range someMachines(t) {
		checkJudged(t, "as it is", m, judgedTold(m))
		for i, turn := range spoils(m) {
			other := turned(m, turn)
			want := judgedTold(other)
			checkJudged(t, fmt.Sprint("turn ", i), other, want)
			if machineTold(other) {
				met[[3]bool{want.so, want.words, want.times}]++
			}
		}
	}
	for _, alone := range [][3]bool{{true, true, true}, {false, true, true}, {true, false, true}, {true, true, false}} {
		if met[alone] < 20 {
			t.Errorf("only %d were so, had their words, had their times: %v", met[alone], alone)
		}
	}
}

func TestReplaySharesNothing(t *testing.T) {
	for i, m := range append(someMachines(t), newMachine(t, rowsOf(2, 1, 0, 5, 0), manyOps(2))) {
		checkSpansApart(t, fmt.Sprint("Replay of machine ", i), func(look func([]span)) asked {
			given := roomyMachine(m)
			look(spansOf(given))
			r, _ := impl.Replay(given)
			return asked{spansOf(given), []span{plainSpan(r.Held, 7)}}
		})
	}
}

// Nothing is written into what is judged, nor into the spare room behind it, and what stands there does not count.
func TestJudgesWriteIntoNothing(t *testing.T) {
	for i, m := range someMachines(t) {
		given := roomyMachine(m)
		before := textsOf(spansOf(given))
		checkJudged(t, fmt.Sprint("machine ", i), given, judgedTold(m))
		if after := textsOf(spansOf(given)); !slices.Equal(before, after) {
			t.Errorf("%v was written: %v", before, after)
		}
	}
}

// Nothing is kept: the same is answered of the same machine, whatever was asked meanwhile, also where many ask at once.
func TestJudgesAnswerTheSameAtEachCall(t *testing.T) {
	list := someMachines(t)
	var all sync.WaitGroup
	for range 8 {
		all.Go(func() {
			for i, m := range list {
				want := judgedTold(m)
				r, so := impl.Replay(m)
				if !rowsSame(r, want.rows) || so != want.so || impl.JudgeSo(m) != want.so || impl.JudgeWords(m) != want.words || impl.JudgeTimes(m) != want.times || impl.JudgeAll(m) != (want.so && want.words && want.times) {
					t.Errorf("machine %d: %v, %v of %v, want %v", i, r, so, m, want)
				}
			}
		})
	}
	all.Wait()
}
