package tests

import (
	"fmt"
	"math"
	"slices"
	"testing"

	"loop.example/g00468/impl"
)

// Promise 6: a mark means what was, or what is to be, never something between.

func numOf(n int) impl.Word {
	return impl.Word{N: n}
}

// markOf has the mark of a try; thread is counted from 1 on, as words have it.
func markOf(thread int, seq int) impl.Word {
	return impl.Word{T: thread, Seq: seq}
}

func descOf(seq int, status int, told ...int) impl.Desc {
	return impl.Desc{Seq: seq, Status: status, List: entriesOf(told...)}
}

// edges has the numbers at which the limits of chapter 6 are met and passed, and such as are far off.
func edges() []int {
	list := []int{-1000001, -1000000, -1001, -1000, -5, -4, -2, -1, 0, 1, 2, 3, 4, 5, 6, 18, 19, 20, 21, 999, 1000, 1001, 1024, 999999, 1000000, 1000001, 1 << 20}
	return append(list, strays...)
}

func TestMemConstants(t *testing.T) {
	codes := []int{impl.DcNone, impl.DcOpen, impl.DcYes, impl.DcNo}
	if !slices.Equal(codes, []int{0, 1, 2, 3}) {
		t.Errorf("codes %v", codes)
	}
	limits := []int{impl.MaxThreads, impl.MaxSeq, impl.MaxWord}
	if !slices.Equal(limits, []int{4, 1000000, 1000}) {
		t.Errorf("limits %v", limits)
	}
}

func TestWordOkCases(t *testing.T) {
	least, most := math.MinInt, math.MaxInt
	for _, c := range []struct {
		w       impl.Word
		threads int
		want    bool
	}{
		{impl.Word{}, 1, true},
		{impl.Word{}, 0, true},
		{impl.Word{}, -1, true},
		{impl.Word{}, least, true},
		{impl.Word{}, most, true},
		{numOf(-1), 4, false},
		{numOf(1), 4, true},
		{numOf(1000), 4, true},
		{numOf(1000), 0, true},
		{numOf(1001), 4, false},
		{numOf(most), 4, false},
		{numOf(least), 4, false},
		{impl.Word{N: 0, Seq: 1}, 4, false},
		{impl.Word{N: 7, Seq: 1}, 4, false},
		{impl.Word{N: 7, Seq: -1}, 4, false},
		{impl.Word{N: 7, T: 1}, 4, false},
		{impl.Word{N: 7, T: -1}, 4, false},
		{impl.Word{N: 7, T: 1, Seq: 1}, 4, false},
		{impl.Word{N: -1, T: 1, Seq: 1}, 4, false},
		{impl.Word{N: 1000, T: 4, Seq: 1000000}, 4, false},
		{markOf(1, 1), 1, true},
		{markOf(1, 1), 0, false},
		{markOf(1, 1), -1, false},
		{markOf(1, 1), least, false},
		{markOf(1, 0), 4, false},
		{markOf(1, -1), 4, false},
		{markOf(1, least), 4, false},
		{markOf(1, 1000000), 4, true},
		{markOf(1, 1000001), 4, false},
		{markOf(1, most), 4, false},
		{markOf(2, 5), 1, false},
		{markOf(2, 5), 2, true},
		{markOf(3, 5), 2, false},
		{markOf(4, 5), 4, true},
		{markOf(5, 5), 4, false},
		{markOf(0, 5), 4, false},
		{markOf(-1, 5), 4, false},
		{markOf(-1, 5), -1, false},
		{markOf(least, 5), 4, false},
		{markOf(most, 5), 4, false},
		{markOf(4, 5), 5, true},
		{markOf(5, 5), 5, true},
		{markOf(most, 5), most, true},
	} {
		if ok := impl.WordOk(c.w, c.threads); ok != c.want {
			t.Errorf("WordOk(%v, %d) = %v", c.w, c.threads, ok)
		}
	}
}

// wordTold says by the document's words whether w is WordOk.
func wordTold(w impl.Word, threads int) bool {
	number := w.N >= 0 && w.N <= 1000 && w.T == 0 && w.Seq == 0
	mark := w.N == 0 && w.T >= 1 && w.T <= threads && w.Seq >= 1 && w.Seq <= 1000000
	return number || mark
}

func TestWordOkOfAllEdges(t *testing.T) {
	list := edges()
	for _, n := range list {
		for _, thread := range list {
			for _, seq := range list {
				w := impl.Word{N: n, T: thread, Seq: seq}
				for _, threads := range []int{math.MinInt, -1, 0, 1, 2, 3, 4, 5, 256, math.MaxInt} {
					if ok := impl.WordOk(w, threads); ok != wordTold(w, threads) {
						t.Fatalf("WordOk(%v, %d) = %v", w, threads, ok)
					}
				}
			}
		}
	}
}

func TestWordOkOfAllNumbers(t *testing.T) {
	for n := -1100; n <= 1100; n++ {
		for _, threads := range []int{0, 1, 4} {
			if ok := impl.WordOk(numOf(n), threads); ok != (n >= 0 && n <= 1000) {
				t.Errorf("WordOk of the number %d, of %d threads = %v", n, threads, ok)
			}
		}
	}
}

// descTold says by the document's words whether d is DescOk.
func descTold(d impl.Desc) bool {
	if d.Seq == 0 {
		return d.Status == 0 && len(d.List) == 0 && d.Res.Code == 0 && len(d.Res.List) == 0
	}
	if d.Seq < 0 || d.Seq > 1000000 || d.Status < 1 || d.Status > 3 || len(d.List) > 20 {
		return false
	}
	for i, e := range d.List {
		if e.At < 0 || e.At > 19 || e.Old < 0 || e.Old > 1000 || e.New < 0 || e.New > 1000 || i > 0 && e.At <= d.List[i-1].At {
			return false
		}
	}
	return true
}

// manyEntries has n entries, from the place 0 on.
func manyEntries(n int) []impl.Entry {
	list := []impl.Entry{}
	for at := range n {
		list = append(list, impl.Entry{At: at, Old: at + 1, New: 1000 - at})
	}
	return list
}

// descLists has lists of entries that a Desc can have, and such as it cannot.
func descLists() [][]impl.Entry {
	lists := [][]impl.Entry{
		nil, {}, make([]impl.Entry, 3)[:0],
		{{}},
		entriesOf(0, 4, 7), entriesOf(19, 4, 7), entriesOf(3, 5, 5),
		entriesOf(0, 1, 2, 19, 3, 4), entriesOf(4, 0, 0, 5, 0, 0, 9, 0, 0),
		entriesOf(0, 1, 2, 0, 1, 2), entriesOf(19, 1, 2, 19, 3, 4), entriesOf(5, 1, 2, 4, 3, 4), entriesOf(0, 1, 2, 9, 3, 4, 9, 5, 6),
		entriesOf(0, 1, 2, 9, 3, 4, 8, 5, 6), entriesOf(1, 1, 2, 9, 3, 4, 0, 5, 6), entriesOf(-1, 1, 2, 9, 3, 4), entriesOf(9, 1, 2, 20, 3, 4),
		manyEntries(19), manyEntries(20), manyEntries(21), manyEntries(40),
		slices.Concat(manyEntries(20), manyEntries(20)),
		slices.Concat(manyEntries(20), entriesOf(19, 0, 0)),
		slices.Concat(manyEntries(19), entriesOf(18, 0, 0)),
	}
	for _, n := range []int{math.MinInt, -1, 0, 1000, 1001, math.MaxInt} {
		lists = append(lists, entriesOf(7, n, 0), entriesOf(7, 0, n), entriesOf(7, n, n), entriesOf(1, 2, 3, 7, n, 4), entriesOf(1, 3, n, 7, 0, 0))
	}
	for _, at := range edges() {
		lists = append(lists, entriesOf(at, 1, 2), entriesOf(at, 1, 2, 10, 3, 4), entriesOf(10, 3, 4, at, 1, 2))
	}
	return lists
}

func TestDescOkOfAllEdges(t *testing.T) {
	results := []impl.Res{{}, {List: []int{}}, {List: make([]int, 2)[:0]}, resOf(1), resOf(-1), resOf(4), resOf(0, 0), resOf(0, 3, -7), resOf(math.MaxInt, math.MinInt)}
	lists := descLists()
	for _, seq := range []int{math.MinInt, -1000000, -1, 0, 1, 2, 999999, 1000000, 1000001, 1 << 32, math.MaxInt} {
		for _, status := range []int{math.MinInt, -1, 0, 1, 2, 3, 4, 5, 256, math.MaxInt} {
			for _, list := range lists {
				for _, s := range results {
					d := impl.Desc{Seq: seq, Status: status, List: list, Res: s}
					if ok := impl.DescOk(d); ok != descTold(d) {
						t.Fatalf("DescOk(%v) = %v", d, ok)
					}
				}
			}
		}
	}
}

func TestDescOkCases(t *testing.T) {
	most := math.MaxInt
	for _, c := range []struct {
		d    impl.Desc
		want bool
	}{
		{impl.Desc{}, true},
		{impl.Desc{List: []impl.Entry{}, Res: impl.Res{List: []int{}}}, true},
		{descOf(0, 1), false},
		{descOf(0, 2), false},
		{descOf(0, 3), false},
		{descOf(0, -1), false},
		{descOf(0, 0, 0, 0, 0), false},
		{descOf(0, 1, 1, 4, 7), false},
		{impl.Desc{Res: resOf(1)}, false},
		{impl.Desc{Res: resOf(0, 0)}, false},
		{descOf(1, 0), false},
		{descOf(1, 1), true},
		{descOf(1, 2), true},
		{descOf(1, 3), true},
		{descOf(1, 4), false},
		{descOf(1, -1), false},
		{descOf(1000000, 0), false},
		{descOf(1000000, 2), true},
		{descOf(1000001, 2), false},
		{descOf(most, 2), false},
		{descOf(-1, 0), false},
		{descOf(-1, 1), false},
		{descOf(2, 1, 1, 4, 7), true},
		{descOf(2, 1, 0, 0, 0, 19, 1000, 1000), true},
		{descOf(2, 1, 4, 1, 2, 4, 1, 2), false},
		{descOf(2, 1, 5, 1, 2, 4, 1, 2), false},
		{descOf(2, 1, -1, 1, 2), false},
		{descOf(2, 1, 20, 1, 2), false},
		{descOf(2, 1, 4, -1, 2), false},
		{descOf(2, 1, 4, 1001, 2), false},
		{descOf(2, 1, 4, 1, -1), false},
		{descOf(2, 1, 4, 1, 1001), false},
		{impl.Desc{Seq: 2, Status: 1, List: manyEntries(20)}, true},
		{impl.Desc{Seq: 2, Status: 1, List: manyEntries(21)}, false},
		{impl.Desc{Seq: 2, Status: 2, List: manyEntries(3), Res: resOf(-9, 1, most)}, true},
	} {
		if ok := impl.DescOk(c.d); ok != c.want {
			t.Errorf("DescOk(%v) = %v", c.d, ok)
		}
	}
}

// entryTold answers by the document's words the entry of a list at a place.
func entryTold(list []impl.Entry, at int) (impl.Entry, bool) {
	for i := range list {
		if list[i].At == at {
			return list[i], true
		}
	}
	return impl.Entry{}, false
}

func TestEntriesOfAllEdges(t *testing.T) {
	for _, list := range descLists() {
		for _, d := range []impl.Desc{{List: list}, {Seq: 3, Status: 1, List: list}, {Seq: 3, Status: 2, List: list}, {Seq: -3, Status: 9, List: list, Res: resOf(7, 1)}} {
			for _, at := range append(edges(), 7, 8, 9, 10, 11, 12, 13) {
				want, has := entryTold(list, at)
				if e, ok := impl.Entries(d, at); e != want || ok != has {
					t.Fatalf("Entries(%v, %d) = %v, %v, want %v, %v", d, at, e, ok, want, has)
				}
			}
		}
	}
}

func TestEntriesCases(t *testing.T) {
	least, most := math.MinInt, math.MaxInt
	three := descOf(2, 1, 1, 4, 7, 9, 5, 8, 19, 6, 9)
	stray := descOf(-1, 7, 9, 1, 2, 4, 3, -4, -1, 5, 6, 20, 7, 8, most, least, most, least, 1, 1)
	none := impl.Entry{}
	for _, c := range []struct {
		d    impl.Desc
		at   int
		want impl.Entry
		ok   bool
	}{
		{three, 1, impl.Entry{At: 1, Old: 4, New: 7}, true},
		{three, 9, impl.Entry{At: 9, Old: 5, New: 8}, true},
		{three, 19, impl.Entry{At: 19, Old: 6, New: 9}, true},
		{three, 0, none, false},
		{three, 2, none, false},
		{three, 4, none, false},
		{three, 18, none, false},
		{three, 20, none, false},
		{three, -1, none, false},
		{three, least, none, false},
		{three, most, none, false},
		{impl.Desc{}, 0, none, false},
		{descOf(2, 1), 0, none, false},
		{impl.Desc{Seq: 2, Status: 1, List: manyEntries(3)[:0]}, 0, none, false},
		{impl.Desc{Seq: 2, Status: 1, List: manyEntries(3)[:1]}, 1, none, false},
		{impl.Desc{Seq: 2, Status: 1, List: []impl.Entry{{}}}, 0, none, true},
		{stray, 9, impl.Entry{At: 9, Old: 1, New: 2}, true},
		{stray, 4, impl.Entry{At: 4, Old: 3, New: -4}, true},
		{stray, -1, impl.Entry{At: -1, Old: 5, New: 6}, true},
		{stray, 20, impl.Entry{At: 20, Old: 7, New: 8}, true},
		{stray, most, impl.Entry{At: most, Old: least, New: most}, true},
		{stray, least, impl.Entry{At: least, Old: 1, New: 1}, true},
		{stray, 0, none, false},
	} {
		if e, ok := impl.Entries(c.d, c.at); e != c.want || ok != c.ok {
			t.Errorf("Entries(%v, %d) = %v, %v, want %v, %v", c.d, c.at, e, ok, c.want, c.ok)
		}
	}
}

// meantTold answers by the document's words what the word at a place means.
func meantTold(words []impl.Word, descs []impl.Desc, at int) int {
	if at < 0 || at >= len(words) {
		return 0
	}
	w := words[at]
	switch {
	case w.T == 0:
		return w.N
	case w.T < 1 || w.T > len(descs):
		return 0
	}
	d := descs[w.T-1]
	e, _ := entryTold(d.List, at)
	if d.Seq == w.Seq && d.Status == 2 {
		return e.New
	}
	return e.Old
}

// meansCase is a mark of the first thread at the place 1, its Desc, and what is meant there.
type meansCase struct {
	seq  int
	d    impl.Desc
	want int
}

func checkMeans(t *testing.T, cases []meansCase) {
	t.Helper()
	for _, c := range cases {
		words, descs := []impl.Word{numOf(9), markOf(1, c.seq)}, []impl.Desc{c.d}
		if n := impl.ValueAt(words, descs, 1); n != c.want {
			t.Errorf("ValueAt of the try %d, by %v = %d, want %d", c.seq, c.d, n, c.want)
		}
		if list := impl.Meaning(words, descs); !slices.Equal(list, []int{9, c.want}) {
			t.Errorf("Meaning of the try %d, by %v = %v, want 9 and %d", c.seq, c.d, list, c.want)
		}
	}
}

func TestMarkOfTheLastTry(t *testing.T) {
	least, most := math.MinInt, math.MaxInt
	checkMeans(t, []meansCase{
		{2, descOf(2, 1, 1, 4, 7), 4},
		{2, descOf(2, 2, 1, 4, 7), 7},
		{2, descOf(2, 3, 1, 4, 7), 4},
		{2, descOf(2, 0, 1, 4, 7), 4},
		{2, descOf(2, -1, 1, 4, 7), 4},
		{2, descOf(2, 4, 1, 4, 7), 4},
		{2, descOf(2, most, 1, 4, 7), 4},
		{2, descOf(2, 2, 1, 4, 0), 0},
		{2, descOf(2, 1, 1, 0, 7), 0},
		{2, descOf(2, 2, 0, 1, 2, 1, 4, 7, 2, 5, 8), 7},
		{2, descOf(2, 1, 0, 1, 2, 1, 4, 7, 2, 5, 8), 4},
		{1000000, descOf(1000000, 2, 1, 4, 7), 7},
		{0, descOf(0, 2, 1, 4, 7), 7},
		{-5, descOf(-5, 2, 1, 4, 7), 7},
		{most, descOf(most, 2, 1, least, most), most},
		{most, descOf(most, 1, 1, least, most), least},
		{2, descOf(2, 2, 5, 1, 2, 1, 4, 7, -1, 8, 9), 7},
	})
}

// A mark of an elder try is met where its thread has gone on: what became of the last try is nothing to it.
func TestMarkOfAnElderTry(t *testing.T) {
	cases := []meansCase{}
	for _, status := range []int{math.MinInt, -1, 0, 1, 2, 3, 4, math.MaxInt} {
		for _, seq := range []int{math.MinInt, -2, 0, 1, 3, 4, 258, 1000000, 1<<32 + 2, math.MaxInt} {
			cases = append(cases,
				meansCase{2, descOf(seq, status, 1, 4, 7), 4},
				meansCase{2, descOf(seq, status, 0, 1, 2, 1, 5, 8, 2, 3, 6), 5},
				meansCase{2, descOf(seq, status, 1, 0, 8), 0},
				meansCase{2, descOf(seq, status, 0, 5, 8), 0},
				meansCase{2, descOf(seq, status), 0},
				meansCase{seq, descOf(2, status, 1, 4, 7), 4},
			)
		}
	}
	checkMeans(t, cases)
}

func TestMarkWithoutAnEntry(t *testing.T) {
	for status := -1; status <= 4; status++ {
		checkMeans(t, []meansCase{
			{2, descOf(2, status), 0},
			{2, impl.Desc{Seq: 2, Status: status}, 0},
			{2, impl.Desc{Seq: 2, Status: status, Res: resOf(5, 6)}, 0},
			{2, descOf(2, status, 0, 4, 7), 0},
			{2, descOf(2, status, 2, 4, 7), 0},
			{2, descOf(2, status, 0, 4, 7, 2, 5, 8), 0},
			{2, descOf(2, status, 257, 4, 7), 0},
			{2, descOf(2, status, 4, 1, 1), 0},
			{2, impl.Desc{Seq: 2, Status: status, List: manyEntries(5)[:1]}, 0},
		})
	}
}

func TestMarkOfAThreadWithoutADesc(t *testing.T) {
	d := descOf(2, 2, 0, 4, 7)
	for many := range 6 {
		descs := slices.Repeat([]impl.Desc{d}, many)
		for _, thread := range edges() {
			want := 0
			if thread >= 1 && thread <= many {
				want = 7
			}
			words := []impl.Word{markOf(thread, 2)}
			if thread == 0 {
				words[0].N = 5
				want = 5
			}
			if n := impl.ValueAt(words, descs, 0); n != want {
				t.Errorf("ValueAt of a mark of thread %d of %d = %d, want %d", thread, many, n, want)
			}
		}
	}
	// A Desc that stands in the spare room belongs to no thread.
	if n := impl.ValueAt([]impl.Word{markOf(2, 2)}, []impl.Desc{d, d}[:1], 0); n != 0 {
		t.Errorf("ValueAt by a Desc behind the list = %d", n)
	}
}

// Each thread has another entry there: what is meant hangs on whose mark it is.
func TestMarkIsOfItsThread(t *testing.T) {
	descs := []impl.Desc{}
	for i := range 4 {
		descs = append(descs, descOf(5, 1+i%2, 0, 10+i, 20+i, 3, 30+i, 40+i))
	}
	for i := range 4 {
		words := []impl.Word{markOf(i+1, 5), numOf(7), numOf(0), markOf(i+1, 5)}
		want := []int{10 + i + 10*(i%2), 7, 0, 30 + i + 10*(i%2)}
		if list := impl.Meaning(words, descs); !slices.Equal(list, want) {
			t.Errorf("Meaning of marks of thread %d = %v, want %v", i, list, want)
		}
	}
}

func TestNumbersMeanThemselves(t *testing.T) {
	descs := []impl.Desc{descOf(2, 2, 0, 4, 7), descOf(3, 1, 0, 5, 8)}
	for _, n := range edges() {
		for _, seq := range []int{0, 2, 3, -1} {
			// T tells a number from a mark, also where the word is not WordOk.
			words := []impl.Word{{N: n, Seq: seq}}
			for _, by := range [][]impl.Desc{nil, {}, descs} {
				if got := impl.ValueAt(words, by, 0); got != n {
					t.Errorf("ValueAt of %v = %d", words[0], got)
				}
			}
			marked := []impl.Word{{N: n, T: 1, Seq: 2}}
			if got := impl.ValueAt(marked, descs, 0); got != 7 {
				t.Errorf("ValueAt of %v = %d, want 7", marked[0], got)
			}
		}
	}
}

func TestValueAtPlacesThatAreNone(t *testing.T) {
	words := []impl.Word{numOf(3), markOf(1, 2), markOf(1, 2), numOf(6), numOf(8), markOf(1, 2)}
	// The Desc has entries at places that are none, too: no word stands there.
	descs := []impl.Desc{descOf(2, 2, 1, 4, 7, 2, 5, 9, 4, 11, 12, 5, 13, 14, -1, 15, 16, 20, 17, 18, math.MaxInt, 19, 20)}
	want := map[int]int{0: 3, 1: 7, 2: 9, 3: 6}
	for _, at := range edges() {
		if n := impl.ValueAt(words[:4], descs, at); n != want[at] {
			t.Errorf("ValueAt the place %d = %d, want %d", at, n, want[at])
		}
		for _, none := range [][]impl.Word{nil, {}, words[:0]} {
			if n := impl.ValueAt(none, descs, at); n != 0 {
				t.Errorf("ValueAt the place %d of no words = %d", at, n)
			}
		}
	}
}

// strayDescs has Descs of each Status, elder and younger than the try 2, and such as are not DescOk.
func strayDescs() []impl.Desc {
	list := []impl.Desc{{}, descOf(-1, 9, 2, 7, -7, 2, 8, -8, 1, 9, -9)}
	for _, seq := range []int{1, 2, 3} {
		for _, status := range []int{1, 2, 3} {
			list = append(list, descOf(seq, status, 0, 10+seq, 20+status, 2, 30+seq, 40+status), descOf(seq, status, 1, 50+seq, 60+status))
		}
	}
	return list
}

func TestMeaningIsValueAtOfEachPlace(t *testing.T) {
	kinds := []impl.Word{numOf(0), numOf(5), numOf(-3), markOf(1, 1), markOf(1, 2), markOf(2, 2), markOf(2, 3), markOf(3, 2), markOf(-1, 2)}
	descs := strayDescs()
	for _, a := range descs {
		for _, b := range descs {
			by := []impl.Desc{a, b}
			for i := range len(kinds) * len(kinds) * len(kinds) {
				words := []impl.Word{kinds[i%9], kinds[i/9%9], kinds[i/81]}
				list := impl.Meaning(words, by)
				if len(list) != len(words) {
					t.Fatalf("Meaning(%v, %v) = %v", words, by, list)
				}
				for at, n := range list {
					if n != meantTold(words, by, at) || n != impl.ValueAt(words, by, at) {
						t.Fatalf("Meaning(%v, %v) = %v, at %d %d is meant", words, by, list, at, meantTold(words, by, at))
					}
				}
			}
		}
	}
}

func TestMeaningHasAsManyAsThereAreWords(t *testing.T) {
	descs := []impl.Desc{descOf(2, 2, 0, 4, 7, 19, 5, 8, 30, 6, 9)}
	for _, by := range [][]impl.Desc{nil, {}, descs} {
		for _, none := range [][]impl.Word{nil, {}, make([]impl.Word, 3)[:0]} {
			if list := impl.Meaning(none, by); len(list) != 0 {
				t.Errorf("Meaning of no words = %v", list)
			}
		}
		for _, many := range []int{1, 2, 19, 20, 21, 100} {
			words, want := []impl.Word{}, []int{}
			for at := range many {
				words = append(words, numOf(at*3))
				want = append(want, at*3)
			}
			if list := impl.Meaning(words, by); !slices.Equal(list, want) {
				t.Errorf("Meaning of %d numbers = %v", many, list)
			}
		}
	}
	if list := impl.Meaning(slices.Repeat([]impl.Word{markOf(1, 2)}, 31), descs); len(list) != 31 || list[0] != 7 || list[19] != 8 || list[30] != 9 || list[1] != 0 {
		t.Errorf("Meaning of 31 marks = %v", list)
	}
}

// checkTry lays the marks of a try one by one in this order, ends it so, and takes them away one by one: at each moment all that it is about is as it was, or all is as it is to be.
func checkTry(t *testing.T, order []int, status int) {
	t.Helper()
	words, before, after := []impl.Word{}, []int{}, []int{}
	for at := range 6 {
		words = append(words, numOf(at+50))
		before = append(before, at+50)
	}
	d := descOf(4, impl.DcOpen, 1, 51, 61, 2, 52, 62, 5, 55, 65)
	after = append(after, before...)
	for _, e := range d.List {
		after[e.At] = e.New
	}
	check := func(want []int) {
		t.Helper()
		if list := impl.Meaning(words, []impl.Desc{{}, d}); !slices.Equal(list, want) {
			t.Fatalf("Meaning(%v) by %v = %v, want %v", words, d, list, want)
		}
	}
	check(before)
	for _, i := range order {
		words[d.List[i].At] = markOf(2, 4)
		check(before)
	}
	want := before
	if status == impl.DcYes {
		want = after
	}
	d.Status = status
	check(want)
	for _, i := range order {
		words[d.List[i].At] = numOf(want[d.List[i].At])
		check(want)
	}
}

func TestWhatIsMeantTurnsAtOnce(t *testing.T) {
	for _, order := range [][]int{{0, 1, 2}, {0, 2, 1}, {1, 0, 2}, {1, 2, 0}, {2, 0, 1}, {2, 1, 0}} {
		checkTry(t, order, impl.DcYes)
		checkTry(t, order, impl.DcNo)
	}
}

// What a plan changes is the table as it was while the try is open, and as it is then once it is done.
func TestPlansAsTries(t *testing.T) {
	somePlans(func(o impl.Op, words []int) {
		p := planTold(o, words)
		marked, after := []impl.Word{}, slices.Clone(words)
		for _, n := range words {
			marked = append(marked, numOf(n))
		}
		for _, e := range p.List {
			marked[e.At] = markOf(3, 8)
			after[e.At] = e.New
		}
		for status, want := range [][]int{impl.DcOpen: words, impl.DcYes: after, impl.DcNo: words} {
			if want == nil {
				continue
			}
			descs := []impl.Desc{{}, {}, {Seq: 8, Status: status, List: p.List, Res: p.Res}}
			if list := impl.Meaning(marked, descs); !slices.Equal(list, want) {
				t.Fatalf("of %v, of status %d: %v is meant, want %v", o, status, list, want)
			}
		}
	})
}

// memText tells all that words and descs have, with the spare room behind each list.
func memText(words []impl.Word, descs []impl.Desc) string {
	text := fmt.Sprint(len(words), words[:cap(words)], len(descs))
	for _, d := range descs[:cap(descs)] {
		text += fmt.Sprint(d.Seq, d.Status, len(d.List), d.List[:cap(d.List)], d.Res.Code, len(d.Res.List), d.Res.List[:cap(d.Res.List)])
	}
	return text
}

// roomyMem has words and descs with spare room behind each of their lists.
func roomyMem() ([]impl.Word, []impl.Desc) {
	words := []impl.Word{numOf(3), markOf(1, 2), markOf(2, 5), markOf(2, 4), markOf(3, 1), markOf(9, 1), numOf(71), markOf(1, 2), {N: 72, T: 73, Seq: 74}}
	descs := []impl.Desc{descOf(2, 1, 1, 4, 7, 2, 81, 82, 7, 83, 84), descOf(5, 2, 2, 5, 8, 3, 6, 9, 4, 85, 86), descOf(1, 3, 4, 10, 11, 0, 87, 88), descOf(91, 92, 5, 93, 94)}
	for i := range descs {
		descs[i].List = descs[i].List[:len(descs[i].List)-1]
		descs[i].Res = impl.Res{Code: i, List: []int{1, 2, 95}[:2]}
	}
	return words[:6], descs[:3]
}

func TestMemIsNotWrittenInto(t *testing.T) {
	words, descs := roomyMem()
	before := memText(words, descs)
	for i, d := range descs[:cap(descs)] {
		impl.WordOk(words[i], i)
		impl.DescOk(d)
		for _, at := range edges() {
			impl.Entries(d, at)
			impl.ValueAt(words, descs, at)
		}
	}
	if list := impl.Meaning(words, descs); !slices.Equal(list, []int{3, 4, 8, 6, 10, 0}) {
		t.Errorf("Meaning = %v", list)
	}
	if after := memText(words, descs); after != before {
		t.Errorf("%s was written: %s", before, after)
	}
}

func TestMeaningSharesNothing(t *testing.T) {
	words, descs := roomyMem()
	first, second := impl.Meaning(words, descs), impl.Meaning(words, descs)
	before := memText(words, descs)
	for i := range first[:cap(first)] {
		first[:cap(first)][i] = 99
	}
	if after := memText(words, descs); after != before {
		t.Errorf("what was written into the answer stands in %s, which was %s", after, before)
	}
	for i := range words {
		words[i] = numOf(98)
	}
	for i := range descs {
		for j := range descs[i].List {
			descs[i].List[j] = impl.Entry{At: j, Old: 96, New: 97}
		}
		descs[i] = impl.Desc{}
	}
	if !slices.Equal(second, []int{3, 4, 8, 6, 10, 0}) {
		t.Errorf("the answer was written into: %v", second)
	}
}

// Nothing is kept: what a mark meant at one call is nothing to the next one.
func TestMeaningAnswersTheSameAtEachCall(t *testing.T) {
	words := []impl.Word{markOf(1, 2)}
	for range 3 {
		for status, want := range []int{4, 4, 7, 4} {
			d := descOf(2, status, 0, 4, 7)
			e, ok := impl.Entries(d, 0)
			if n := impl.ValueAt(words, []impl.Desc{d}, 0); n != want || !ok || e.New != 7 {
				t.Errorf("ValueAt of status %d = %d, want %d; Entries %v, %v", status, n, want, e, ok)
			}
			d.List[0].Old, d.List[0].New = 14, 17
			if n := impl.ValueAt(words, []impl.Desc{d}, 0); n != want+10 {
				t.Errorf("ValueAt of status %d = %d, want %d", status, n, want+10)
			}
		}
	}
}
