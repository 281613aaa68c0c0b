package tests

import (
	"fmt"
	"math"
	"slices"
	"strings"
	"sync"
	"testing"

	"loop.example/g00468/impl"
)

// Promise 15: what is shown ends with its line.

// wordShown, callShown, rowsShown and machineShown answer by the document's words, with places and limits written anew.
func wordShown(w impl.Word) string {
	if w.T == 0 {
		return fmt.Sprint(w.N)
	}
	return fmt.Sprintf("*%d.%d", w.T-1, w.Seq)
}

func callShown(c impl.Call) string {
	if c.End < 0 {
		return fmt.Sprintf("%d %s: open", c.T, textTold(c.Op))
	}
	return fmt.Sprintf("%d %s: %s", c.T, textTold(c.Op), resTold(c.Res))
}

func rowsShown(r impl.Rows) string {
	told := fmt.Sprint(r.Held)
	return fmt.Sprintf("%s/%d", strings.ReplaceAll(told[1:len(told)-1], " ", ","), r.State)
}

func machineShown(m impl.Machine) string {
	words := []int{}
	for place := range m.Mem.Words {
		words = append(words, meantTold(m.Mem.Words, m.Mem.Descs, place))
	}
	told := rowsShown(rowsInTold(words)) + "\n"
	for _, c := range m.Calls {
		told += callShown(c) + "\n"
	}
	return told
}

func checkWordText(t *testing.T, w impl.Word, want string) {
	t.Helper()
	if got := impl.WordText(w); got != want {
		t.Fatalf("WordText(%v) = %q, want %q", w, got, want)
	}
}

func checkCallText(t *testing.T, c impl.Call, want string) {
	t.Helper()
	if got := impl.CallText(c); got != want {
		t.Fatalf("CallText(%v) = %q, want %q", c, got, want)
	}
}

func checkRowsText(t *testing.T, r impl.Rows, want string) {
	t.Helper()
	if got := impl.RowsText(r); got != want {
		t.Fatalf("RowsText(%v) = %q, want %q", r, got, want)
	}
}

// checkMachineText asks of what is shown of m also that it ends with its line: one line for the rows and one for each call, none of them empty, and nothing behind the last.
func checkMachineText(t *testing.T, name string, m impl.Machine, want string) {
	t.Helper()
	got := impl.MachineText(m)
	if got != want {
		t.Fatalf("%s: MachineText(%v) = %q, want %q", name, m, got, want)
	}
	if !strings.HasSuffix(got, "\n") || strings.Count(got, "\n") != 1+len(m.Calls) || strings.HasPrefix(got, "\n") || strings.Contains(got, "\n\n") {
		t.Fatalf("%s: MachineText(%v) = %q has not one line for the rows and one for each of %d calls", name, m, got, len(m.Calls))
	}
}

const leastText, mostText = "-9223372036854775808", "9223372036854775807"

func wordsByHand() map[impl.Word]string {
	least, most := math.MinInt, math.MaxInt
	return map[impl.Word]string{
		{}: "0", numOf(1): "1", numOf(4): "4", numOf(10): "10", numOf(1000): "1000", numOf(1001): "1001",
		numOf(-1): "-1", numOf(-70): "-70", numOf(least): leastText, numOf(most): mostText,
		// Whether a word is a mark is told by T alone.
		{Seq: 3}: "0", {N: 5, Seq: 3}: "5", {N: -5, Seq: -3}: "-5", {N: most, Seq: least}: mostText,
		markOf(1, 0): "*0.0", markOf(1, 1): "*0.1", markOf(1, 2): "*0.2", markOf(1, 1000000): "*0.1000000", markOf(1, 1000001): "*0.1000001", markOf(1, most): "*0." + mostText,
		markOf(2, 0): "*1.0", markOf(2, 1): "*1.1", markOf(2, 3): "*1.3", markOf(2, 12): "*1.12", markOf(3, 1): "*2.1", markOf(4, 999999): "*3.999999", markOf(5, 1): "*4.1", markOf(12, 1): "*11.1",
		markOf(1, -1): "*0.-1", markOf(1, least): "*0." + leastText,
		{N: 7, T: 1, Seq: 2}: "*0.2", {N: -7, T: 4, Seq: 1}: "*3.1", {N: most, T: 2, Seq: 0}: "*1.0", {N: least, T: 1, Seq: most}: "*0." + mostText,
		markOf(-1, 0): "*-2.0", markOf(-1, 5): "*-2.5", markOf(-4, 1): "*-5.1", {N: 9, T: -1, Seq: 2}: "*-2.2",
		markOf(most, 1): "*9223372036854775806.1", markOf(most, most): "*9223372036854775806." + mostText,
		markOf(least+1, 1): "*" + leastText + ".1",
		// One less than the least number is the greatest, as numbers of 64 bits are.
		markOf(least, 1): "*" + mostText + ".1", markOf(least, least): "*" + mostText + "." + leastText,
	}
}

func TestWordTextByHand(t *testing.T) {
	for w, want := range wordsByHand() {
		checkWordText(t, w, want)
		if told := wordShown(w); told != want {
			t.Errorf("%v is told as %q, and by hand as %q", w, told, want)
		}
	}
}

// Each number near the edges and far off, in each place.
func TestWordTextOfAnyWord(t *testing.T) {
	list := edges()
	for _, n := range list {
		checkWordText(t, numOf(n), fmt.Sprint(n))
		for _, thread := range list {
			for _, seq := range list {
				w := impl.Word{N: n, T: thread, Seq: seq}
				checkWordText(t, w, wordShown(w))
			}
		}
	}
}

// No two words that can be met have one text.
func TestWordTextTellsWordsApart(t *testing.T) {
	seen := map[string]impl.Word{}
	tell := func(w impl.Word) {
		text := impl.WordText(w)
		if other, is := seen[text]; is {
			t.Fatalf("%v and %v are both %q", w, other, text)
		}
		seen[text] = w
	}
	for n := range 1001 {
		tell(numOf(n))
	}
	for thread := 1; thread <= 4; thread++ {
		for seq := 1; seq <= 300; seq++ {
			tell(markOf(thread, seq))
			tell(markOf(thread, 1000001-seq))
		}
	}
}

type callByHand struct {
	c    impl.Call
	text string
}

func callsByHand() []callByHand {
	least, most := math.MinInt, math.MaxInt
	scan, get, put := opOf(impl.OpScan, 0, 0), opOf(impl.OpGet, 1, 0), opOf(impl.OpPut, 1, 3)
	return []callByHand{
		// Open: nothing is told of what came, also where it is there.
		{impl.Call{T: 1, Op: scan, End: -1}, "1 scan: open"},
		{openCallOf(0, put, 5), "0 put 1 3: open"},
		{callOf(2, get, 0, -1, -2, resOf(0, 3)), "2 get 1: open"},
		{callOf(2, get, 0, 4, -1, resOf(0, 3)), "2 get 1: open"},
		{callOf(3, put, 1, 2, -1, resOf(0)), "3 put 1 3: open"},
		{callOf(0, put, 1, 2, -1, resOf(1)), "0 put 1 3: open"},
		{callOf(0, scan, 1, 2, least, resOf(0, 1, 2, 3, 4)), "0 scan: open"},
		{callOf(0, scan, 1, 2, least+1, resOf(9, 1)), "0 scan: open"},
		{callOf(0, impl.Op{}, 0, 0, -1, resOf(0)), "0 none: open"},
		{callOf(-1, opOf(impl.OpGet, 4, 0), 0, 0, least, resOf(4)), "-1 none: open"},
		// Ended: when it was so, or began, is nothing to it.
		{impl.Call{}, "0 none: done"},
		{impl.Call{Op: scan}, "0 scan: done"},
		{callOf(0, put, 1, 2, 3, resOf(0)), "0 put 1 3: done"},
		{callOf(0, put, 1, 2, 0, resOf(1)), "0 put 1 3: there"},
		{callOf(1, put, 1, 2, 1, resOf(2)), "1 put 1 3: taken"},
		{callOf(2, get, 1, 2, most, resOf(3)), "2 get 1: none"},
		{callOf(3, opOf(impl.OpOpen, 0, 0), 1, 2, 100000, resOf(4)), "3 open: not"},
		{callOf(3, opOf(impl.OpMake, 0, 0), 1, 2, 100001, resOf(5)), "3 make: what"},
		{callOf(3, opOf(impl.OpMake, 0, 0), 1, 2, 7, resOf(-1)), "3 make: what"},
		{callOf(0, get, 1, -1, 3, resOf(0, 3)), "0 get 1: done 3"},
		{callOf(0, get, -1, -1, 0, resOf(0, 0)), "0 get 1: done 0"},
		{callOf(0, get, 9, 8, 7, resOf(3, -1)), "0 get 1: none -1"},
		{callOf(1, scan, 1, 2, 3, resOf(0, 5, 0, 2, 0)), "1 scan: done 5,0,2,0"},
		{callOf(1, opOf(impl.OpCount, 2, 0), 1, 2, 3, resOf(0, 12)), "1 count 2: done 12"},
		{callOf(1, opOf(impl.OpFind, 0, 6), 1, 2, 3, resOf(0, 3)), "1 find 6: done 3"},
		{callOf(1, opOf(impl.OpVia, 0, 1), 1, 2, 3, resOf(4, 7, 8)), "1 via 1: not 7,8"},
		{callOf(1, opOf(impl.OpSet, 3, 6), 1, 2, 3, resOf(2, least, most)), "1 set 3 6: taken " + leastText + "," + mostText},
		{callOf(1, opOf(impl.OpDel, 0, 0), 1, 2, 3, resOf(77, 1, 2)), "1 del 0: what 1,2"},
		{callOf(0, opOf(impl.OpPut, 4, 1), 1, 2, 3, resOf(3)), "0 none: none"},
		{callOf(0, opOf(11, 0, 0), 1, 2, 3, resOf(1, 1)), "0 none: there 1"},
		{callOf(4, scan, 1, 2, 3, resOf(0)), "4 scan: done"},
		{callOf(120, scan, 1, 2, 3, resOf(0)), "120 scan: done"},
		{callOf(-3, scan, 1, 2, 3, resOf(0)), "-3 scan: done"},
		{callOf(most, scan, 1, 2, 3, resOf(0)), mostText + " scan: done"},
		{callOf(least, scan, 1, 2, 3, resOf(0)), leastText + " scan: done"},
		{callOf(most, scan, 1, 2, -1, resOf(0)), mostText + " scan: open"},
		{callOf(least, scan, 1, 2, -1, resOf(0)), leastText + " scan: open"},
	}
}

func TestCallTextByHand(t *testing.T) {
	for _, c := range callsByHand() {
		checkCallText(t, c.c, c.text)
		if told := callShown(c.c); told != c.text {
			t.Errorf("%v is told as %q, and by hand as %q", c.c, told, c.text)
		}
	}
}

// Each End, with each code and what it tells.
func TestCallTextOfEachEndAndRes(t *testing.T) {
	ends := append(edges(), -3, 100000, 100001)
	for _, end := range ends {
		for _, list := range someTold() {
			for code := -2; code <= 7; code++ {
				c := callOf(1, opOf(impl.OpScan, 0, 0), 3, 4, end, resOf(code, list...))
				checkCallText(t, c, callShown(c))
				if open := impl.CallText(c) == "1 scan: open"; open != (end < 0) {
					t.Fatalf("CallText(%v) = %q", c, impl.CallText(c))
				}
			}
		}
	}
}

// Each op, and such as are not OpOk, by any thread.
func TestCallTextOfEachOpAndThread(t *testing.T) {
	ops := append(everyOp(), wrongOps()...)
	for i, thread := range edges() {
		for _, o := range ops {
			open, over := openCallOf(thread, o, 2), callOf(thread, o, 2, 3, 4, resOf(i%6, i))
			checkCallText(t, open, fmt.Sprintf("%d %s: open", thread, textTold(o)))
			checkCallText(t, over, callShown(over))
		}
	}
}

// When a call began, and when it was so, is not told.
func TestCallTextOfAnyTimes(t *testing.T) {
	for _, start := range edges() {
		for _, lin := range edges() {
			checkCallText(t, callOf(2, opOf(impl.OpGet, 3, 0), start, lin, -1, resOf(0, 6)), "2 get 3: open")
			checkCallText(t, callOf(2, opOf(impl.OpGet, 3, 0), start, lin, 0, resOf(0, 6)), "2 get 3: done 6")
		}
	}
}

type rowsByHand struct {
	r    impl.Rows
	text string
}

func someRowsByHand() []rowsByHand {
	least, most := math.MinInt, math.MaxInt
	return []rowsByHand{
		{impl.Rows{}, "/0"}, {rowsOf(5), "/5"}, {rowsOf(-1), "/-1"}, {impl.Rows{Held: []int{}, State: 3}, "/3"}, {impl.Rows{Held: make([]int, 0, 4), State: 3}, "/3"},
		{rowsOf(0, 7), "7/0"}, {rowsOf(2, 0), "0/2"}, {rowsOf(2, -1), "-1/2"},
		{rowsOf(0, 0, 0, 0, 0), "0,0,0,0/0"}, {rowsOf(1, 0, 0, 0, 0), "0,0,0,0/1"},
		{rowsOf(0, 5, 0, 0, 0), "5,0,0,0/0"}, {rowsOf(5, 0, 3, 0, 0), "0,3,0,0/5"}, {rowsOf(4, 0, 0, 0, 1), "0,0,0,1/4"}, {rowsOf(2, 5, 0, 2, 0), "5,0,2,0/2"}, {rowsOf(5, 6, 5, 4, 3), "6,5,4,3/5"},
		{rowsOf(6, 1, 2, 3, 4), "1,2,3,4/6"}, {rowsOf(-1, 1, 2, 3, 4), "1,2,3,4/-1"}, {rowsOf(1000, 1, 2, 3, 4), "1,2,3,4/1000"}, {rowsOf(least, 1, 2, 3, 4), "1,2,3,4/" + leastText}, {rowsOf(most, 1, 2, 3, 4), "1,2,3,4/" + mostText},
		{rowsOf(3, -1, 7, 1000, 3), "-1,7,1000,3/3"}, {rowsOf(3, 2, 2, 2, 2), "2,2,2,2/3"}, {rowsOf(3, least, 0, 0, most), leastText + ",0,0," + mostText + "/3"},
		{rowsOf(3, 1, 2, 3), "1,2,3/3"}, {rowsOf(3, 1, 2, 3, 4, 5), "1,2,3,4,5/3"}, {rowsOf(3, 10, 11), "10,11/3"},
	}
}

func TestRowsTextByHand(t *testing.T) {
	for _, c := range someRowsByHand() {
		checkRowsText(t, c.r, c.text)
		if told := rowsShown(c.r); told != c.text {
			t.Errorf("%v is told as %q, and by hand as %q", c.r, told, c.text)
		}
	}
	checkRowsText(t, impl.RowsNew(), "0,0,0,0/0")
}

func TestRowsTextOfAnyRows(t *testing.T) {
	seen := map[string]bool{}
	for _, r := range everyRows() {
		checkRowsText(t, r, rowsShown(r))
		seen[impl.RowsText(r)] = true
	}
	if len(seen) != len(everyRows()) {
		t.Errorf("%d texts of %d rows", len(seen), len(everyRows()))
	}
	for _, r := range wrongRows() {
		checkRowsText(t, r, rowsShown(r))
	}
	for _, n := range edges() {
		for _, r := range []impl.Rows{rowsOf(n), rowsOf(n, n), rowsOf(n, 1, 0, 2, 0), rowsOf(1, n, 0, 2, 0), rowsOf(1, 1, 0, 2, n), rowsOf(n, n, n, n, n, n)} {
			checkRowsText(t, r, rowsShown(r))
		}
	}
}

// tableMem has the words of rows as numbers, but those that are told.
func tableMem(r impl.Rows, told laid, descs ...impl.Desc) impl.Mem {
	words := []impl.Word{}
	for _, n := range wordsTold(r.Held, r.State) {
		words = append(words, numOf(n))
	}
	for place, w := range told {
		words[place] = w
	}
	return impl.Mem{Words: words, Descs: descs}
}

type machineByHand struct {
	name string
	m    impl.Machine
	text string
}

func machinesByHand() []machineByHand {
	r := rowsOf(5, 4, 0, 0, 2)
	calls := []impl.Call{
		callOf(0, opOf(impl.OpPut, 1, 3), 1, 2, 3, resOf(0)),
		openCallOf(2, opOf(impl.OpScan, 0, 0), 2),
		callOf(0, opOf(impl.OpGet, 1, 0), 4, 6, 7, resOf(0, 3)),
		callOf(1, opOf(impl.OpSet, 0, 6), 4, 5, -1, resOf(0)),
	}
	ended, open := calls[:1], calls[1:2]
	return []machineByHand{
		{"zero", impl.Machine{}, "/0\n"},
		{"no call", impl.Machine{Mem: tableMem(r, nil, impl.Desc{})}, "4,0,0,2/5\n"},
		{"an empty list of calls", impl.Machine{Mem: tableMem(r, nil), Calls: []impl.Call{}}, "4,0,0,2/5\n"},
		{"one that ended", impl.Machine{Mem: tableMem(r, nil), Calls: ended}, "4,0,0,2/5\n0 put 1 3: done\n"},
		{"one that is open", impl.Machine{Mem: tableMem(r, nil), Calls: open}, "4,0,0,2/5\n2 scan: open\n"},
		{"several", impl.Machine{Mem: tableMem(r, nil), Calls: calls}, "4,0,0,2/5\n0 put 1 3: done\n2 scan: open\n0 get 1: done 3\n1 set 0 6: open\n"},
		{"one twice", impl.Machine{Mem: tableMem(r, nil), Calls: []impl.Call{calls[2], calls[2]}}, "4,0,0,2/5\n0 get 1: done 3\n0 get 1: done 3\n"},
		// Calls are told as they began, not as they were so; what the table was at first is not told.
		{"another order, and other rows at first", impl.Machine{Mem: tableMem(r, nil), Calls: calls, Order: []int{3, 2, 0}, First: rowsOf(1, 6, 6, 6, 6), Time: 9}, "4,0,0,2/5\n0 put 1 3: done\n2 scan: open\n0 get 1: done 3\n1 set 0 6: open\n"},
		{"calls without words", impl.Machine{Calls: calls[:2]}, "/0\n0 put 1 3: done\n2 scan: open\n"},
		{"calls of nobody, of no op", impl.Machine{Calls: []impl.Call{{T: -1, End: -1}, {T: 9, Op: opOf(99, 0, 0), Res: resOf(8, 8)}}}, "/0\n-1 none: open\n9 none: what 8\n"},
		// Marks: of a try that is open, done, not done.
		{"a mark that means Old", impl.Machine{Mem: tableMem(r, laid{0: markOf(1, 2)}, descOf(2, impl.DcOpen, 0, 4, 6))}, "4,0,0,2/5\n"},
		{"a mark that means New", impl.Machine{Mem: tableMem(r, laid{0: markOf(1, 2)}, descOf(2, impl.DcYes, 0, 4, 6))}, "6,0,0,2/5\n"},
		{"a mark that means Old again", impl.Machine{Mem: tableMem(r, laid{0: markOf(1, 2)}, descOf(2, impl.DcNo, 0, 4, 6))}, "4,0,0,2/5\n"},
		{"a mark on the state, Old", impl.Machine{Mem: tableMem(r, laid{13: markOf(2, 1)}, impl.Desc{}, descOf(1, impl.DcOpen, 13, 2, 3))}, "4,0,0,2/2\n"},
		{"a mark on the state, New", impl.Machine{Mem: tableMem(r, laid{13: markOf(2, 1)}, impl.Desc{}, descOf(1, impl.DcYes, 13, 2, 3))}, "4,0,0,2/3\n"},
		{"marks of two threads", impl.Machine{Mem: tableMem(r, laid{0: markOf(1, 2), 3: markOf(2, 7), 2: markOf(2, 7), 13: markOf(1, 2)}, descOf(2, impl.DcYes, 0, 4, 1, 13, 5, 4), descOf(7, impl.DcOpen, 2, 0, 6, 3, 2, 5)), Calls: open}, "1,0,0,2/4\n2 scan: open\n"},
		{"marks elsewhere", impl.Machine{Mem: tableMem(r, laid{5: markOf(1, 2), 19: markOf(1, 2)}, descOf(2, impl.DcYes, 5, 0, 900, 19, 0, 900))}, "4,0,0,2/5\n"},
		{"a mark of an elder try", impl.Machine{Mem: tableMem(r, laid{0: markOf(1, 1)}, descOf(2, impl.DcYes, 0, 3, 6))}, "3,0,0,2/5\n"},
		{"a mark without an entry", impl.Machine{Mem: tableMem(r, laid{0: markOf(1, 2)}, descOf(2, impl.DcYes, 1, 3, 6))}, "0,0,0,2/5\n"},
		{"a mark of nobody", impl.Machine{Mem: tableMem(r, laid{0: markOf(2, 2), 3: markOf(-1, 2)}, descOf(2, impl.DcYes, 0, 4, 6))}, "0,0,0,0/5\n"},
		{"a number beside a mark", impl.Machine{Mem: tableMem(r, laid{0: {N: 9, T: 1, Seq: 2}}, descOf(2, impl.DcOpen, 0, 4, 6))}, "4,0,0,2/5\n"},
		// Words that are not whole are told as they are: by the rows and the state alone.
		{"numbers that are no table's", impl.Machine{Mem: tableMem(r, laid{0: numOf(-1), 1: numOf(7), 2: numOf(math.MaxInt), 3: numOf(7), 13: numOf(math.MinInt)})}, "-1,7," + mostText + ",7/" + leastText + "\n"},
		{"ways that stray", impl.Machine{Mem: tableMem(r, laid{4: numOf(3), 7: numOf(0), 10: numOf(9), 14: numOf(-5)})}, "4,0,0,2/5\n"},
		{"marks that mean no table's", impl.Machine{Mem: tableMem(r, laid{1: markOf(1, 1)}, descOf(1, impl.DcYes, 1, 0, 4))}, "4,4,0,2/5\n"},
		{"19 words", impl.Machine{Mem: impl.Mem{Words: tableMem(r, nil).Words[:19], Descs: make([]impl.Desc, 1)}, Calls: ended}, "/0\n0 put 1 3: done\n"},
		{"21 words", impl.Machine{Mem: impl.Mem{Words: append(tableMem(r, nil).Words, numOf(0)), Descs: make([]impl.Desc, 1)}, Calls: ended}, "/0\n0 put 1 3: done\n"},
		{"4 words", impl.Machine{Mem: impl.Mem{Words: tableMem(r, nil).Words[:4]}}, "/0\n"},
		{"no words, with Descs", impl.Machine{Mem: impl.Mem{Descs: make([]impl.Desc, 9)}}, "/0\n"},
	}
}

func TestMachineTextByHand(t *testing.T) {
	for _, c := range machinesByHand() {
		checkMachineText(t, c.name, c.m, c.text)
		if told := machineShown(c.m); told != c.text {
			t.Errorf("%s: %v is told as %q, and by hand as %q", c.name, c.m, told, c.text)
		}
	}
}

// Neither threads nor times count, nor who has tried what.
func TestMachineTextOfWordsAndCallsAlone(t *testing.T) {
	m := midway()
	want := machineShown(m)
	for _, turn := range []func(*impl.Machine){
		func(m *impl.Machine) { m.Threads = nil },
		func(m *impl.Machine) { m.Threads = append(m.Threads, busy(), busy()) },
		func(m *impl.Machine) { m.Time = -5 },
		func(m *impl.Machine) { m.Order = []int{9, -1, 9} },
		func(m *impl.Machine) { m.First = rowsOf(77, 1, 1) },
		func(m *impl.Machine) { m.Mem.Descs[0].Res = resOf(9, 9) },
		func(m *impl.Machine) { m.Mem.Descs[2] = descOf(8, impl.DcYes, 0, 1, 2) },
	} {
		checkMachineText(t, "turned", turned(m, turn), want)
	}
}

func TestMachineTextOfGoodAndWrongMems(t *testing.T) {
	for _, mem := range append(goodMems(), wrongMems()...) {
		m := fitting(mem, slices.Repeat([]impl.Thread{{Ops: manyOps(3), Pc: 1, On: true}}, len(mem.Descs))...)
		checkMachineText(t, "a Mem", m, machineShown(m))
	}
}

func TestMachineTextOfEachNumberOfWords(t *testing.T) {
	d := descOf(1, impl.DcYes, 0, 1, 2)
	for n := range 45 {
		words := make([]impl.Word, n)
		for place := range words {
			words[place] = numOf(place + 1)
		}
		want := "/0\n0 scan: open\n"
		if n == 20 {
			want = "1,2,3,4/14\n0 scan: open\n"
		}
		m := impl.Machine{Mem: impl.Mem{Words: words, Descs: []impl.Desc{d}}, Calls: []impl.Call{openCallOf(0, opOf(impl.OpScan, 0, 0), 1)}}
		checkMachineText(t, fmt.Sprint(n, " words"), m, want)
	}
}

// As many calls as there can be, and more.
func TestMachineTextOfManyCalls(t *testing.T) {
	texts, calls := callsByHand(), []impl.Call{}
	want := "0,0,0,0/0\n"
	for n := range 1000 {
		m := impl.Machine{Mem: tableMem(rowsOf(0, 0, 0, 0, 0), nil), Calls: calls}
		if n < 60 || n%97 == 0 {
			checkMachineText(t, fmt.Sprint(n, " calls"), m, want)
		}
		c := texts[n%len(texts)]
		calls, want = append(calls, c.c), want+c.text+"\n"
	}
}

func TestMachineTextOfAnyMachine(t *testing.T) {
	list := slices.Concat(someMachines(t), wrongMachines(), searches(t), []impl.Machine{endless(3), endless(4), midway()})
	for _, status := range marked(t) {
		list = append(list, status...)
	}
	for _, turn := range turns() {
		list = append(list, turned(midway(), turn))
	}
	for i, m := range list {
		checkMachineText(t, fmt.Sprint("machine ", i), m, machineShown(m))
	}
}

// Words, Descs and calls that look like any, and fit to nothing.
func TestMachineTextOfAnyNumbers(t *testing.T) {
	d, nums := dice(71), []int{math.MinInt, -2, -1, 0, 0, 1, 1, 2, 2, 3, 4, 5, 6, 7, 20, 1000, math.MaxInt}
	roll := func() int { return nums[d.roll(len(nums))] }
	ops := append(everyOp(), wrongOps()...)
	marks := 0
	for i := range 3000 {
		m := impl.Machine{}
		for range 18 + i%5 {
			w := numOf(roll())
			if d.roll(2) == 0 {
				w = impl.Word{N: roll(), T: 1 + d.roll(3), Seq: 1 + d.roll(2)}
				marks++
			}
			m.Mem.Words = append(m.Mem.Words, w)
		}
		for range d.roll(4) {
			desc := descOf(1+d.roll(2), d.roll(4))
			for range d.roll(12) {
				desc.List = append(desc.List, impl.Entry{At: d.roll(20), Old: roll(), New: roll()})
			}
			m.Mem.Descs = append(m.Mem.Descs, desc)
		}
		for range d.roll(6) {
			m.Calls = append(m.Calls, callOf(roll(), ops[d.roll(len(ops))], roll(), roll(), roll(), resOf(roll(), nums[:d.roll(4)]...)))
		}
		checkMachineText(t, fmt.Sprint("machine ", i), m, machineShown(m))
	}
	if marks < 10000 {
		t.Errorf("%d marks", marks)
	}
}

// A put that is alone, step by step: its row is shown from the moment on at which it is so, while it is open still.
func TestMachineTextStepByStep(t *testing.T) {
	m := newMachine(t, rowsOf(2, 5, 0, 0, 0), []impl.Op{opOf(impl.OpPut, 1, 3), opOf(impl.OpPut, 2, 3)})
	checkMachineText(t, "new", m, "5,0,0,0/2\n")
	for m.Calls == nil || m.Calls[0].End < 0 {
		m = runAll(t, m, 0)
		want := "5,0,0,0/2\n0 put 1 3: open\n"
		switch c := m.Calls[0]; {
		case c.End >= 0:
			want = "5,3,0,0/2\n0 put 1 3: done\n"
		case c.Lin >= 0:
			want = "5,3,0,0/2\n0 put 1 3: open\n"
		}
		checkMachineText(t, fmt.Sprint("at ", m.Time), m, want)
	}
	checkMachineText(t, "all is told", impl.Fair(m, 100), "5,3,0,0/2\n0 put 1 3: done\n0 put 2 3: taken\n")
}

// Of each state that crowds can be in the rows are shown as they are at that moment, marks or not.
func TestMachineTextWhoeverGoesOnWhen(t *testing.T) {
	inEachCrowd(t, func(t *testing.T, m impl.Machine) {
		checkMachineText(t, "a state", m, machineShown(m))
		first, _, _ := strings.Cut(impl.MachineText(m), "\n")
		if r, so := impl.Replay(m); !so || first != rowsShown(r) {
			t.Fatalf("of %v %q is shown, but it was so that the rows are %v", m, first, r)
		}
	})
}

// Many ops of up to four threads, in orders that look like any.
func TestMachineTextInLongRuns(t *testing.T) {
	d, open, over := dice(72), 0, 0
	for i := range 40 {
		threads := 1 + i%4
		m := anyMachine(t, &d, threads, 8)
		for !impl.Finished(m) {
			m = impl.Play(m, anyOrder(&d, threads, 3, 1+i%9))
			text := machineShown(m)
			checkMachineText(t, fmt.Sprint("run ", i), m, text)
			open += strings.Count(text, ": open\n")
		}
		over += len(m.Calls)
		if text := impl.MachineText(m); strings.Contains(text, ": open\n") {
			t.Fatalf("all was told of %v, but %q is shown", m, text)
		}
	}
	if open < 500 || over < 300 {
		t.Errorf("%d are open, %d were told", open, over)
	}
}

// No text of one thing has the end of a line in it: only then do lines end where they are shown to end.
func TestTextsStandInOneLine(t *testing.T) {
	texts := []string{}
	for w := range wordsByHand() {
		texts = append(texts, impl.WordText(w))
	}
	for _, c := range callsByHand() {
		texts = append(texts, impl.CallText(c.c))
	}
	for _, c := range someRowsByHand() {
		texts = append(texts, impl.RowsText(c.r))
	}
	for b := range 256 {
		// A number that is the byte 10, or any other, is shown in digits.
		texts = append(texts, impl.WordText(numOf(b)), impl.WordText(markOf(b, b)), impl.CallText(impl.Call{T: b, Res: resOf(b, b)}), impl.RowsText(rowsOf(b, b)))
	}
	for _, text := range texts {
		if text == "" || strings.ContainsAny(text, "\n\r\x00") {
			t.Errorf("%q does not stand in one line", text)
		}
	}
}

// Nothing is written into what is shown, nor into the spare room behind its lists, and what stands there is not shown.
func TestShownWritesIntoNothing(t *testing.T) {
	list := someMachines(t)
	for _, c := range machinesByHand() {
		list = append(list, c.m)
	}
	for i, m := range list {
		given := roomyMachine(m)
		before := textsOf(spansOf(given))
		checkMachineText(t, fmt.Sprint("machine ", i, " with room"), given, machineShown(m))
		for n, c := range given.Calls {
			checkCallText(t, c, callShown(m.Calls[n]))
		}
		for n, w := range given.Mem.Words {
			checkWordText(t, w, wordShown(m.Mem.Words[n]))
		}
		checkRowsText(t, given.First, rowsShown(m.First))
		if after := textsOf(spansOf(given)); !slices.Equal(before, after) {
			t.Errorf("%v was written: %v", before, after)
		}
	}
	for _, c := range someRowsByHand() {
		held := withRoom(c.r.Held)
		before := slices.Clone(held)
		checkRowsText(t, impl.Rows{Held: held[:len(c.r.Held)], State: c.r.State}, c.text)
		if !slices.Equal(held, before) {
			t.Errorf("%v was written: %v", before, held)
		}
	}
	for _, c := range callsByHand() {
		told := withRoom(c.c.Res.List)
		before := slices.Clone(told)
		given := c.c
		given.Res.List = told[:len(c.c.Res.List)]
		checkCallText(t, given, c.text)
		if !slices.Equal(told, before) {
			t.Errorf("%v was written: %v", before, told)
		}
	}
}

// showCalls has of each function of the chapter what it answers, as one text; callsShown has the same by hand. Neither needs another call of the program.
func showCalls() map[string]func() string {
	return map[string]func() string{
		"WordText": func() string {
			told := []string{}
			for w := range wordsByHand() {
				told = append(told, impl.WordText(w))
			}
			return joined(told)
		},
		"CallText": func() string {
			told := []string{}
			for _, c := range callsByHand() {
				told = append(told, impl.CallText(c.c))
			}
			return joined(told)
		},
		"RowsText": func() string {
			told := []string{}
			for _, c := range someRowsByHand() {
				told = append(told, impl.RowsText(c.r))
			}
			return joined(told)
		},
		"MachineText": func() string {
			told := []string{}
			for _, c := range machinesByHand() {
				told = append(told, impl.MachineText(c.m))
			}
			return joined(told)
		},
	}
}

func callsShown() map[string]string {
	told := map[string][]string{}
	for _, text := range wordsByHand() {
		told["WordText"] = append(told["WordText"], text)
	}
	for _, c := range callsByHand() {
		told["CallText"] = append(told["CallText"], c.text)
	}
	for _, c := range someRowsByHand() {
		told["RowsText"] = append(told["RowsText"], c.text)
	}
	for _, c := range machinesByHand() {
		told["MachineText"] = append(told["MachineText"], c.text)
	}
	all := map[string]string{}
	for name, texts := range told {
		all[name] = joined(texts)
	}
	return all
}

// joined has texts as one, in an order that does not hang on theirs.
func joined(texts []string) string {
	slices.Sort(texts)
	return strings.Join(texts, "|")
}

// Nothing is kept: the same is answered whatever was asked meanwhile, also where many ask at once.
func TestShownTheSameAtEachCall(t *testing.T) {
	want, calls := callsShown(), showCalls()
	machines := someMachines(t)
	var all sync.WaitGroup
	for range 8 {
		all.Go(func() {
			for range 5 {
				for name, call := range calls {
					if got := call(); got != want[name] {
						t.Errorf("%s answers\n%s\nnot\n%s", name, got, want[name])
					}
				}
				for i, m := range machines {
					if got := impl.MachineText(m); got != machineShown(m) {
						t.Errorf("machine %d: MachineText(%v) = %q", i, m, got)
					}
				}
			}
		})
	}
	all.Wait()
}

func TestShownAheadOfAnyOtherCall(t *testing.T) {
	checkEachCalledFirst(t, showCalls(), callsShown())
}
