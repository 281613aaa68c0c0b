package tests

import (
	"fmt"
	"maps"
	"math"
	"slices"
	"testing"

	"loop.example/g00468/impl"
)

// Promise 7: each step leaves the meaning as it was, but one; a try is done wholly, or not at all.

// laid tells words by their places.
type laid map[int]impl.Word

// memOf has a memory in which each word is the number 50 and its place, but those that are told.
func memOf(told laid, descs ...impl.Desc) impl.Mem {
	words := []impl.Word{}
	for place := range 20 {
		words = append(words, numOf(50+place))
	}
	for place, w := range told {
		words[place] = w
	}
	return impl.Mem{Words: words, Descs: descs}
}

// withWord has m with another word at a place.
func withWord(m impl.Mem, place int, w impl.Word) impl.Mem {
	words := slices.Clone(m.Words)
	words[place] = w
	return impl.Mem{Words: words, Descs: m.Descs}
}

// withDesc has m with another Desc of thread i.
func withDesc(m impl.Mem, i int, d impl.Desc) impl.Mem {
	descs := slices.Clone(m.Descs)
	descs[i] = d
	return impl.Mem{Words: m.Words, Descs: descs}
}

func helpOf(thread int, seq int, at int, fin int) impl.Help {
	return impl.Help{T: thread, Seq: seq, At: at, Fin: fin}
}

func descSame(a impl.Desc, b impl.Desc) bool {
	return a.Seq == b.Seq && a.Status == b.Status && slices.Equal(a.List, b.List) && a.Res.Code == b.Res.Code && slices.Equal(a.Res.List, b.Res.List)
}

func memSame(a impl.Mem, b impl.Mem) bool {
	return slices.Equal(a.Words, b.Words) && slices.EqualFunc(a.Descs, b.Descs, descSame)
}

func meansOf(m impl.Mem) []int {
	return impl.Meaning(m.Words, m.Descs)
}

func TestHelpConstants(t *testing.T) {
	codes := []int{impl.HpOn, impl.HpPush, impl.HpPop, impl.HpYes}
	if !slices.Equal(codes, []int{0, 1, 2, 3}) {
		t.Errorf("codes %v", codes)
	}
}

// memTold says by the document's words whether m is MemOk.
func memTold(m impl.Mem) bool {
	if len(m.Words) != 20 || len(m.Descs) < 1 || len(m.Descs) > 4 {
		return false
	}
	for _, d := range m.Descs {
		if !descTold(d) {
			return false
		}
	}
	for place, w := range m.Words {
		if !wordTold(w, len(m.Descs)) {
			return false
		}
		if w.T == 0 {
			continue
		}
		d := m.Descs[w.T-1]
		if _, has := entryTold(d.List, place); !has || d.Seq != w.Seq {
			return false
		}
	}
	return true
}

// wholeMem has a try that is about all words, and has its mark in as many of them.
func wholeMem(status int, marks int) impl.Mem {
	told := laid{}
	for place := range 20 {
		told[place] = numOf(place + 1)
		if place < marks {
			told[place] = markOf(1, 3)
		}
	}
	return memOf(told, impl.Desc{Seq: 3, Status: status, List: manyEntries(20), Res: resOf(2, 7)})
}

// goodMems has memories that are MemOk: of one to four threads, with tries that are open, done or not, of which all, some or no words have their mark.
func goodMems() []impl.Mem {
	list := []impl.Mem{
		memOf(nil, impl.Desc{}),
		memOf(nil, impl.Desc{}, impl.Desc{}, impl.Desc{}, impl.Desc{}),
		memOf(nil, descOf(1, 1), descOf(1000000, 2), descOf(7, 3)),
		memOf(laid{3: numOf(0), 4: numOf(1000)}, descOf(5, 1, 3, 0, 7, 4, 1000, 8)),
		memOf(laid{0: markOf(1, 1), 19: markOf(4, 1000000)}, descOf(1, 1, 0, 50, 0, 19, 69, 1), impl.Desc{}, impl.Desc{}, descOf(1000000, 2, 0, 50, 1, 19, 3, 4)),
	}
	for status := impl.DcOpen; status <= impl.DcNo; status++ {
		list = append(list, wholeMem(status, 0), wholeMem(status, 7), wholeMem(status, 20))
		first := impl.Desc{Seq: 2, Status: status, List: entriesOf(1, 51, 61, 2, 52, 62, 5, 55, 65), Res: resOf(0, 8, 9)}
		for other := impl.DcOpen; other <= impl.DcNo; other++ {
			second := descOf(2, other, 2, 52, 72, 5, 55, 75, 6, 56, 76)
			third := descOf(9, other, 0, 50, 0, 1, 51, 1)
			list = append(list,
				memOf(nil, first, second),
				memOf(laid{1: markOf(1, 2)}, first, second),
				memOf(laid{1: markOf(1, 2), 2: markOf(1, 2), 5: markOf(1, 2)}, first, second, third),
				memOf(laid{2: markOf(2, 2), 5: markOf(1, 2), 1: markOf(3, 9)}, first, second, third),
				memOf(laid{2: markOf(2, 2), 5: markOf(2, 2)}, first, second),
				memOf(laid{2: numOf(62), 5: numOf(54)}, first, second),
				memOf(laid{1: numOf(61), 2: markOf(2, 2), 5: numOf(65)}, impl.Desc{}, first),
			)
		}
	}
	return list
}

// wrongMems has memories that are not MemOk, each for one reason.
func wrongMems() []impl.Mem {
	good := memOf(laid{1: markOf(1, 2), 2: markOf(2, 2)}, descOf(2, 1, 1, 51, 61, 5, 55, 65), descOf(2, 2, 2, 52, 72))
	list := []impl.Mem{
		{},
		{Words: good.Words},
		{Descs: good.Descs},
		{Words: good.Words[:19], Descs: good.Descs},
		{Words: append(slices.Clone(good.Words), numOf(0)), Descs: good.Descs},
		{Words: append(slices.Clone(good.Words), good.Words...), Descs: good.Descs},
		{Words: memOf(nil).Words, Descs: []impl.Desc{}},
		{Words: memOf(nil).Words, Descs: make([]impl.Desc, 5)},
		{Words: good.Words, Descs: append(slices.Clone(good.Descs), impl.Desc{}, impl.Desc{}, impl.Desc{})},
		{Words: good.Words, Descs: good.Descs[:1]},
	}
	for _, w := range []impl.Word{
		numOf(-1), numOf(1001), numOf(math.MaxInt), numOf(math.MinInt), {N: 5, Seq: 1}, {Seq: 2}, {N: 5, T: 1, Seq: 2},
		markOf(1, 0), markOf(1, 1), markOf(1, 3), markOf(1, -2), markOf(1, 1000001), markOf(1, 1<<32+2),
		markOf(2, 2), markOf(3, 2), markOf(4, 2), markOf(5, 2), markOf(-1, 2), markOf(math.MinInt, 2), markOf(math.MaxInt, 2), markOf(257, 2),
	} {
		list = append(list, withWord(good, 5, w))
	}
	for _, d := range []impl.Desc{
		{}, descOf(1, 1, 2, 52, 72), descOf(3, 1, 2, 52, 72), descOf(2, 1), descOf(2, 1, 1, 51, 71, 3, 53, 73), descOf(2, 1, 2, 52, 1001), descOf(2, 1, 2, -1, 72),
		descOf(2, 0, 2, 52, 72), descOf(2, 4, 2, 52, 72), descOf(2, 1, 2, 52, 72, 2, 52, 72), descOf(2, 1, 2, 52, 72, 1, 51, 71), descOf(2, 1, 2, 52, 72, 20, 1, 1),
	} {
		list = append(list, withDesc(good, 1, d))
	}
	for _, d := range []impl.Desc{descOf(0, 1), descOf(-1, 1), descOf(1000001, 1), {Res: resOf(1)}, {Res: resOf(0, 0)}, {List: entriesOf(0, 1, 2)}, descOf(5, 7)} {
		list = append(list, impl.Mem{Words: good.Words, Descs: append(slices.Clone(good.Descs), d)})
	}
	return list
}

func TestMemOkOfGoodAndWrong(t *testing.T) {
	for _, m := range goodMems() {
		if !impl.MemOk(m) || !memTold(m) {
			t.Errorf("MemOk(%v) = %v", m, impl.MemOk(m))
		}
	}
	for _, m := range wrongMems() {
		if impl.MemOk(m) || memTold(m) {
			t.Errorf("MemOk(%v) = %v", m, impl.MemOk(m))
		}
	}
}

func TestMemOkOfEachSize(t *testing.T) {
	for words := range 45 {
		for descs := range 9 {
			m := impl.Mem{Words: make([]impl.Word, words), Descs: make([]impl.Desc, descs)}
			if ok := impl.MemOk(m); ok != (words == 20 && descs >= 1 && descs <= 4) {
				t.Errorf("MemOk of %d words and %d Descs = %v", words, descs, ok)
			}
		}
	}
	// What stands in the spare room is no word, and no thread's.
	words, descs := make([]impl.Word, 20), make([]impl.Desc, 4)
	for _, m := range []impl.Mem{{Words: words[:19], Descs: descs}, {Words: words, Descs: descs[:0]}} {
		if impl.MemOk(m) {
			t.Errorf("MemOk of %d words and %d Descs, with more behind", len(m.Words), len(m.Descs))
		}
	}
}

// Each word, and each Desc, is turned into what it can be and cannot be.
func TestMemOkOfAllEdges(t *testing.T) {
	wordsAsked := []impl.Word{{Seq: 1}, {N: 1, T: 1, Seq: 2}, {N: -1, T: 1, Seq: 2}}
	for _, n := range edges() {
		wordsAsked = append(wordsAsked, numOf(n), markOf(n, 2), markOf(1, n))
	}
	for thread := 1; thread <= 5; thread++ {
		for _, seq := range []int{1, 2, 3, 9, 1000000} {
			wordsAsked = append(wordsAsked, markOf(thread, seq))
		}
	}
	descsAsked := []impl.Desc{{}, {Res: resOf(1)}, descOf(2, 1), descOf(0, 1)}
	for _, list := range descLists() {
		descsAsked = append(descsAsked, impl.Desc{Seq: 2, Status: 1, List: list})
	}
	for _, seq := range []int{-1, 0, 1, 2, 3, 9, 1000000, 1000001} {
		for status := -1; status <= 4; status++ {
			descsAsked = append(descsAsked, descOf(seq, status, 0, 1, 1, 1, 1, 1, 2, 1, 1, 5, 1, 1, 6, 1, 1), descOf(seq, status))
		}
	}
	for _, m := range goodMems() {
		for place := range 20 {
			for _, w := range wordsAsked {
				if x := withWord(m, place, w); impl.MemOk(x) != memTold(x) {
					t.Fatalf("MemOk(%v) = %v", x, impl.MemOk(x))
				}
			}
		}
		for i := range m.Descs {
			for _, d := range descsAsked {
				if x := withDesc(m, i, d); impl.MemOk(x) != memTold(x) {
					t.Fatalf("MemOk(%v) = %v", x, impl.MemOk(x))
				}
			}
		}
	}
}

func TestMemOkAsksWhatAMarkStandsFor(t *testing.T) {
	d := descOf(2, 1, 3, 53, 63, 7, 57, 67)
	for _, c := range []struct {
		told laid
		by   []impl.Desc
		want bool
	}{
		{laid{3: markOf(1, 2)}, []impl.Desc{d}, true},
		{laid{7: markOf(1, 2)}, []impl.Desc{d}, true},
		{laid{3: markOf(1, 2), 7: markOf(1, 2)}, []impl.Desc{d}, true},
		{laid{4: markOf(1, 2)}, []impl.Desc{d}, false},
		{laid{2: markOf(1, 2)}, []impl.Desc{d}, false},
		{laid{0: markOf(1, 2)}, []impl.Desc{d}, false},
		{laid{3: markOf(1, 2), 8: markOf(1, 2)}, []impl.Desc{d}, false},
		{laid{3: markOf(1, 1)}, []impl.Desc{d}, false},
		{laid{3: markOf(1, 3)}, []impl.Desc{d}, false},
		{laid{3: markOf(2, 2)}, []impl.Desc{d}, false},
		{laid{3: markOf(2, 2)}, []impl.Desc{d, {}}, false},
		{laid{3: markOf(2, 2)}, []impl.Desc{d, descOf(2, 1)}, false},
		{laid{3: markOf(2, 2)}, []impl.Desc{{}, d}, true},
		{laid{3: markOf(1, 2)}, []impl.Desc{{}, d}, false},
		{laid{3: markOf(4, 2)}, []impl.Desc{{}, {}, {}, d}, true},
		{laid{3: markOf(5, 2)}, []impl.Desc{{}, {}, {}, d}, false},
		{laid{3: markOf(5, 2)}, []impl.Desc{{}, {}, {}, {}, d}, false},
		{laid{3: markOf(1, 2), 7: markOf(2, 5)}, []impl.Desc{d, descOf(5, 3, 7, 1, 2)}, true},
		{laid{3: markOf(2, 5), 7: markOf(1, 2)}, []impl.Desc{d, descOf(5, 3, 7, 1, 2)}, false},
		{nil, []impl.Desc{d, d, d, d}, true},
	} {
		if ok := impl.MemOk(memOf(c.told, c.by...)); ok != c.want {
			t.Errorf("MemOk of %v by %v = %v", c.told, c.by, ok)
		}
	}
}

func checkNew(t *testing.T, r impl.Rows, threads int, want []int) {
	t.Helper()
	m, ok := impl.MemNew(r, threads)
	if !ok || !impl.MemOk(m) || !impl.Quiet(m) || len(m.Descs) != threads {
		t.Fatalf("MemNew(%v, %d) = %v, %v", r, threads, m, ok)
	}
	words := []impl.Word{}
	for _, n := range want {
		words = append(words, numOf(n))
	}
	if !memSame(m, impl.Mem{Words: words, Descs: make([]impl.Desc, threads)}) {
		t.Fatalf("MemNew(%v, %d) = %v, want %v", r, threads, m, words)
	}
	if list := meansOf(m); !slices.Equal(list, want) {
		t.Fatalf("MemNew(%v, %d) means %v, want %v", r, threads, list, want)
	}
}

func checkNoNew(t *testing.T, r impl.Rows, threads int) {
	t.Helper()
	if m, ok := impl.MemNew(r, threads); ok || len(m.Words) != 0 || len(m.Descs) != 0 {
		t.Fatalf("MemNew(%v, %d) = %v, %v", r, threads, m, ok)
	}
}

func TestMemNewOfEveryRows(t *testing.T) {
	for i, r := range everyRows() {
		checkNew(t, r, 1+i%4, wordsTold(r.Held, r.State))
	}
}

func TestMemNewOfEachThreads(t *testing.T) {
	r := rowsOf(3, 5, 0, 2, 0)
	want := []int{5, 0, 2, 0, 0, 3, 0, 0, 1, 0, 0, 0, 2, 3, 0, 0, 0, 0, 1, 0}
	for threads := 1; threads <= 4; threads++ {
		checkNew(t, r, threads, want)
		checkNew(t, impl.RowsNew(), threads, make([]int, 20))
	}
	for _, threads := range append(outside(1, 4), math.MinInt, math.MaxInt) {
		checkNoNew(t, r, threads)
		checkNoNew(t, impl.RowsNew(), threads)
	}
}

func TestMemNewOfWrongRows(t *testing.T) {
	for _, r := range wrongRows() {
		for threads := -1; threads <= 5; threads++ {
			checkNoNew(t, r, threads)
		}
	}
}

// assisted is what Assist answers.
type assisted struct {
	mem   impl.Mem
	help  impl.Help
	other impl.Help
	how   int
}

func assist(m impl.Mem, h impl.Help) assisted {
	mem, help, other, how := impl.Assist(m, h)
	return assisted{mem, help, other, how}
}

func assistedSame(a assisted, b assisted) bool {
	return memSame(a.mem, b.mem) && a.help == b.help && a.other == b.other && a.how == b.how
}

// assistTold answers one step by the document's words. Fin below 0 counts as 0, as At does; a thread that has not tried anything has no step.
func assistTold(m impl.Mem, h impl.Help) assisted {
	asItWas := assisted{mem: m, help: h, how: 2}
	if !memTold(m) || h.T < 0 || h.T >= len(m.Descs) || m.Descs[h.T].Seq != h.Seq || h.Seq == 0 {
		return asItWas
	}
	d := m.Descs[h.T]
	if d.Status == 1 {
		return openTold(m, h, d)
	}
	fin := max(h.Fin, 0)
	if fin >= len(d.List) {
		return asItWas
	}
	e := d.List[fin]
	if m.Words[e.At] == markOf(h.T+1, h.Seq) {
		m = withWord(m, e.At, numOf(map[int]int{2: e.New, 3: e.Old}[d.Status]))
	}
	return assisted{mem: m, help: helpOf(h.T, h.Seq, h.At, fin+1)}
}

// openTold answers one step of a try that is open.
func openTold(m impl.Mem, h impl.Help, d impl.Desc) assisted {
	place := max(h.At, 0)
	if place >= len(d.List) {
		d.Status = 2
		return assisted{mem: withDesc(m, h.T, d), help: h, how: 3}
	}
	e, further := d.List[place], helpOf(h.T, h.Seq, place+1, h.Fin)
	w, mark := m.Words[e.At], markOf(h.T+1, h.Seq)
	if w == mark {
		return assisted{mem: m, help: further}
	}
	if w.T != 0 {
		return assisted{mem: m, help: h, other: helpOf(w.T-1, w.Seq, 0, 0), how: 1}
	}
	if w.N == e.Old {
		return assisted{mem: withWord(m, e.At, mark), help: further}
	}
	d.Status = 3
	return assisted{mem: withDesc(m, h.T, d), help: h}
}

func checkAssist(t *testing.T, m impl.Mem, h impl.Help, want assisted) {
	t.Helper()
	if got := assist(m, h); !assistedSame(got, want) {
		t.Fatalf("Assist(%v, %v) = %v, want %v", m, h, got, want)
	}
}

func TestAssistOfAllEdges(t *testing.T) {
	steps := []int{math.MinInt, -2, -1, 0, 1, 2, 3, 4, 19, 20, 21, math.MaxInt}
	for _, m := range goodMems() {
		for _, thread := range []int{math.MinInt, -1, 0, 1, 2, 3, 4, 256, math.MaxInt} {
			for _, seq := range []int{math.MinInt, -1, 0, 1, 2, 3, 7, 9, 1000000, 1000001, math.MaxInt} {
				for _, place := range steps {
					for _, fin := range steps {
						h := helpOf(thread, seq, place, fin)
						checkAssist(t, m, h, assistTold(m, h))
					}
				}
			}
		}
	}
}

func TestAssistOfWrongMems(t *testing.T) {
	for _, m := range wrongMems() {
		for thread := -1; thread <= 4; thread++ {
			for seq := -1; seq <= 3; seq++ {
				for _, n := range []int{-1, 0, 1, 2} {
					h := helpOf(thread, seq, n, n)
					checkAssist(t, m, h, assisted{mem: m, help: h, how: impl.HpPop})
				}
			}
		}
	}
}

func TestAssistOfNoSuchTry(t *testing.T) {
	m := memOf(nil, descOf(5, 1, 0, 50, 60), descOf(5, 2, 0, 50, 60), impl.Desc{})
	for _, thread := range append(outside(0, 2), math.MaxInt, math.MinInt) {
		h := helpOf(thread, 5, 0, 0)
		checkAssist(t, m, h, assisted{mem: m, help: h, how: impl.HpPop})
	}
	for _, seq := range append(outside(5, 5), math.MaxInt, math.MinInt, 1<<32+5, 261) {
		for thread := range 3 {
			h := helpOf(thread, seq, 0, 0)
			checkAssist(t, m, h, assisted{mem: m, help: h, how: impl.HpPop})
		}
	}
}

// A thread that has not tried anything has Seq 0 in its Desc: nothing is to be done for it, whatever is said of At and Fin.
func TestAssistOfSeq0(t *testing.T) {
	for threads := 1; threads <= 4; threads++ {
		m, _ := impl.MemNew(rowsOf(3, 5, 0, 2, 0), threads)
		for thread := -1; thread <= 5; thread++ {
			for _, n := range []int{math.MinInt, -1, 0, 1, 20, math.MaxInt} {
				h := helpOf(thread, 0, n, n)
				checkAssist(t, m, h, assisted{mem: m, help: h, how: impl.HpPop})
			}
		}
	}
}

// laysCase is an open try of the second thread, where it is, and what becomes of the word there, the Desc and At.
type laysCase struct {
	name   string
	word   impl.Word
	at     int
	want   impl.Word
	status int
	then   int
	other  impl.Help
	how    int
}

func TestAssistOfAnOpenTry(t *testing.T) {
	none := impl.Help{}
	mark := markOf(2, 6)
	for _, c := range []laysCase{
		{"the number Old", numOf(53), 1, mark, impl.DcOpen, 2, none, impl.HpOn},
		{"one less", numOf(52), 1, numOf(52), impl.DcNo, 1, none, impl.HpOn},
		{"one more", numOf(54), 1, numOf(54), impl.DcNo, 1, none, impl.HpOn},
		{"the number New", numOf(63), 1, numOf(63), impl.DcNo, 1, none, impl.HpOn},
		{"0", numOf(0), 1, numOf(0), impl.DcNo, 1, none, impl.HpOn},
		{"its mark", mark, 1, mark, impl.DcOpen, 2, none, impl.HpOn},
		{"a mark of an open try", markOf(1, 4), 1, markOf(1, 4), impl.DcOpen, 1, impl.Help{T: 0, Seq: 4}, impl.HpPush},
		{"a mark of a try that is done, of the same Seq", markOf(3, 6), 1, markOf(3, 6), impl.DcOpen, 1, impl.Help{T: 2, Seq: 6}, impl.HpPush},
		{"a mark of a try that is not done", markOf(4, 1000000), 1, markOf(4, 1000000), impl.DcOpen, 1, impl.Help{T: 3, Seq: 1000000}, impl.HpPush},
	} {
		m := memOf(laid{3: c.word}, descOf(4, 1, 3, 53, 9), descOf(6, 1, 1, 51, 61, 3, 53, 63, 8, 58, 68), descOf(6, 2, 3, 1, 53), descOf(1000000, 3, 3, 53, 1))
		want := memOf(laid{3: c.want}, m.Descs[0], descOf(6, c.status, 1, 51, 61, 3, 53, 63, 8, 58, 68), m.Descs[2], m.Descs[3])
		for _, fin := range []int{math.MinInt, -1, 0, 1, 3, 4, math.MaxInt} {
			got := assist(m, helpOf(1, 6, c.at, fin))
			if !assistedSame(got, assisted{want, helpOf(1, 6, c.then, fin), c.other, c.how}) {
				t.Errorf("%s: %v", c.name, got)
			}
		}
	}
}

func TestAssistAtEachEntry(t *testing.T) {
	m := memOf(nil, descOf(6, 1, 1, 51, 61, 3, 53, 63, 8, 58, 68))
	places := []int{1, 3, 8}
	for _, n := range append(outside(0, 2), 0, 1, 2) {
		h := helpOf(0, 6, n, 5)
		// Below 0 counts as 0.
		i := max(n, 0)
		if i < 3 {
			checkAssist(t, m, h, assisted{mem: withWord(m, places[i], markOf(1, 6)), help: helpOf(0, 6, i+1, 5)})
			continue
		}
		checkAssist(t, m, h, assisted{mem: withDesc(m, 0, descOf(6, 2, 1, 51, 61, 3, 53, 63, 8, 58, 68)), help: h, how: impl.HpYes})
	}
}

func TestAssistOfNoEntries(t *testing.T) {
	for _, n := range edges() {
		h := helpOf(0, 6, n, n)
		open, done, not := memOf(nil, descOf(6, 1)), memOf(nil, descOf(6, 2)), memOf(nil, descOf(6, 3))
		checkAssist(t, open, h, assisted{mem: done, help: h, how: impl.HpYes})
		checkAssist(t, done, h, assisted{mem: done, help: h, how: impl.HpPop})
		checkAssist(t, not, h, assisted{mem: not, help: h, how: impl.HpPop})
	}
}

// A try that is over: at each Fin its own mark goes, any other word stays.
func TestAssistOfATryThatIsOver(t *testing.T) {
	for status, becomes := range map[int][]int{impl.DcYes: {61, 63, 68}, impl.DcNo: {51, 53, 58}} {
		d := descOf(6, status, 1, 51, 61, 3, 53, 63, 8, 58, 68)
		others := []impl.Desc{descOf(6, 1, 1, 1, 2, 3, 3, 4, 8, 5, 6), descOf(2, 2, 1, 1, 2, 3, 3, 4, 8, 5, 6)}
		own := memOf(laid{1: markOf(3, 6), 3: markOf(3, 6), 8: markOf(3, 6)}, others[0], others[1], d)
		places := []int{1, 3, 8}
		for _, n := range append(outside(0, 2), 0, 1, 2) {
			h := helpOf(2, 6, 7, n)
			i := max(n, 0)
			if i >= 3 {
				checkAssist(t, own, h, assisted{mem: own, help: h, how: impl.HpPop})
				continue
			}
			further := helpOf(2, 6, 7, i+1)
			checkAssist(t, own, h, assisted{mem: withWord(own, places[i], numOf(becomes[i])), help: further})
			for _, w := range []impl.Word{numOf(0), numOf(51), numOf(63), numOf(1000), markOf(1, 6), markOf(2, 2)} {
				m := withWord(own, places[i], w)
				checkAssist(t, m, h, assisted{mem: m, help: further})
			}
		}
	}
}

// walk takes step for step, each as it must go, and asks at each that no more than the one step HpYes turns what is meant.
func walk(t *testing.T, m impl.Mem, h impl.Help, codes ...int) (impl.Mem, impl.Help) {
	t.Helper()
	for i, code := range codes {
		got := assist(m, h)
		if got.how != code || !impl.MemOk(got.mem) {
			t.Fatalf("step %d answers %d, want %d: %v", i, got.how, code, got)
		}
		if code != impl.HpYes && !slices.Equal(meansOf(m), meansOf(got.mem)) {
			t.Fatalf("step %d has %v meant, ahead of it %v", i, meansOf(got.mem), meansOf(m))
		}
		m, h = got.mem, got.help
	}
	return m, h
}

func TestATryThatIsDone(t *testing.T) {
	on, yes, pop := impl.HpOn, impl.HpYes, impl.HpPop
	m, h, ok := impl.Begin(memOf(nil, impl.Desc{}, impl.Desc{}), 1, entriesOf(1, 51, 61, 4, 54, 54, 9, 59, 0), resOf(0, 7))
	before := meansOf(m)
	if !ok || h != helpOf(1, 1, 0, 0) || !impl.Quiet(m) {
		t.Fatalf("Begin: %v, %v, %v", m, h, ok)
	}
	m, h = walk(t, m, h, on, on, on)
	if h != helpOf(1, 1, 3, 0) || m.Words[1] != markOf(2, 1) || m.Words[4] != markOf(2, 1) || m.Words[9] != markOf(2, 1) || !slices.Equal(meansOf(m), before) {
		t.Fatalf("all marks laid: %v, %v", m, h)
	}
	after := slices.Clone(before)
	after[1], after[9] = 61, 0
	m, h = walk(t, m, h, yes)
	if h != helpOf(1, 1, 3, 0) || m.Descs[1].Status != impl.DcYes || !slices.Equal(meansOf(m), after) {
		t.Fatalf("done: %v, %v", m, h)
	}
	m, h = walk(t, m, h, on)
	if h != helpOf(1, 1, 3, 1) || m.Words[1] != numOf(61) || m.Words[4] != markOf(2, 1) {
		t.Fatalf("one mark gone: %v, %v", m, h)
	}
	m, h = walk(t, m, h, on, on, pop, pop)
	if h != helpOf(1, 1, 3, 3) || !impl.Quiet(m) || !slices.Equal(meansOf(m), after) || !impl.ResSame(m.Descs[1].Res, resOf(0, 7)) {
		t.Fatalf("all gone: %v, %v", m, h)
	}
	// Who comes late goes through it from the start, and turns nothing.
	late, g := walk(t, m, helpOf(1, 1, 0, 0), on, on, on, pop)
	if !memSame(late, m) || g != helpOf(1, 1, 0, 3) {
		t.Fatalf("late: %v, %v", late, g)
	}
}

func TestATryThatIsNotDone(t *testing.T) {
	on, pop := impl.HpOn, impl.HpPop
	quiet := memOf(nil, impl.Desc{})
	m, h, _ := impl.Begin(quiet, 0, entriesOf(1, 51, 61, 4, 53, 64, 9, 59, 69), impl.Res{})
	m, h = walk(t, m, h, on, on)
	if h != helpOf(0, 1, 1, 0) || m.Descs[0].Status != impl.DcNo || m.Words[1] != markOf(1, 1) {
		t.Fatalf("another number: %v, %v", m, h)
	}
	m, h = walk(t, m, h, on, on, on, pop)
	if h != helpOf(0, 1, 1, 3) || !slices.Equal(m.Words, quiet.Words) || m.Descs[0].Status != impl.DcNo {
		t.Fatalf("not done: %v, %v", m, h)
	}
}

func TestATryMeetsAnothersMark(t *testing.T) {
	on, push, yes, pop := impl.HpOn, impl.HpPush, impl.HpYes, impl.HpPop
	m := memOf(nil, impl.Desc{}, impl.Desc{})
	m, first, _ := impl.Begin(m, 0, entriesOf(2, 52, 62, 3, 53, 63), impl.Res{})
	m, second, _ := impl.Begin(m, 1, entriesOf(1, 51, 71, 2, 62, 72), impl.Res{})
	m, first = walk(t, m, first, on)
	m, second = walk(t, m, second, on, push, push)
	other := assist(m, second).other
	if other != helpOf(0, 1, 0, 0) || second != helpOf(1, 1, 1, 0) {
		t.Fatalf("push: %v, %v", other, second)
	}
	// The second one helps the first one to its end: it meets a mark that is laid already, and lays the other one.
	m, other = walk(t, m, other, on, on, yes, on, on, pop)
	if other != helpOf(0, 1, 2, 2) || m.Words[2] != numOf(62) || m.Words[3] != numOf(63) {
		t.Fatalf("helped: %v, %v", m, other)
	}
	m, second = walk(t, m, second, on, yes, on, on, pop)
	m, first = walk(t, m, first, on, on, pop)
	want := memOf(laid{1: numOf(71), 2: numOf(72), 3: numOf(63)}, descOf(1, 2, 2, 52, 62, 3, 53, 63), descOf(1, 2, 1, 51, 71, 2, 62, 72))
	if !memSame(m, want) || first != helpOf(0, 1, 1, 2) || second != helpOf(1, 1, 2, 2) {
		t.Fatalf("both done: %v, %v, %v", m, first, second)
	}
}

// The try that comes second thinks the word is what it was: it is not done, and no word of it is changed.
func TestATryThatComesTooLate(t *testing.T) {
	on, push, yes, pop := impl.HpOn, impl.HpPush, impl.HpYes, impl.HpPop
	m := memOf(nil, impl.Desc{}, impl.Desc{})
	m, first, _ := impl.Begin(m, 0, entriesOf(2, 52, 62), impl.Res{})
	m, second, _ := impl.Begin(m, 1, entriesOf(1, 51, 71, 2, 52, 72, 3, 53, 73), impl.Res{})
	m, second = walk(t, m, second, on)
	m, first = walk(t, m, first, on)
	m, second = walk(t, m, second, push)
	m, first = walk(t, m, first, yes)
	m, second = walk(t, m, second, push)
	m, _ = walk(t, m, first, on, pop)
	m, second = walk(t, m, second, on, on, on, on, pop)
	want := memOf(laid{2: numOf(62)}, descOf(1, 2, 2, 52, 62), descOf(1, 3, 1, 51, 71, 2, 52, 72, 3, 53, 73))
	if !memSame(m, want) || second != helpOf(1, 1, 1, 3) {
		t.Fatalf("too late: %v, %v", m, second)
	}
}

// An actor goes on with the last one of those it is about. It pushes whom it must help first, and leaves who needs no help any more.
type actor []impl.Help

func (a actor) then(got assisted) actor {
	below, last := slices.Clone(a[:len(a)-1]), got.help
	switch got.how {
	case impl.HpPop:
		return below
	case impl.HpPush:
		return append(below, last, got.other)
	}
	return append(below, last)
}

// orders goes through all orders in which actors can go on, each state once.
type orders struct {
	t    *testing.T
	seen map[string]bool
	ends map[string]int
}

func (o *orders) from(m impl.Mem, actors []actor) {
	o.t.Helper()
	state := fmt.Sprint(m, actors)
	if o.seen[state] {
		return
	}
	o.seen[state] = true
	over := true
	for i, a := range actors {
		if len(a) == 0 {
			continue
		}
		over = false
		// Who helps two others, one for the other's sake, meets no third one here.
		if len(a) > 3 || len(o.seen) > 100000 {
			o.t.Fatalf("%v go on and on in %v", actors, m)
		}
		got := assist(m, a[len(a)-1])
		checkStep(o.t, m, a[len(a)-1], got)
		next := slices.Clone(actors)
		next[i] = a.then(got)
		o.from(got.mem, next)
	}
	if over {
		o.ends[fmt.Sprint(m)]++
		checkEnd(o.t, m)
	}
}

// checkStep asks that a step is one word, or how one try is: what is meant stays, but where a try is done, and then all of it turns at once.
func checkStep(t *testing.T, m impl.Mem, h impl.Help, got assisted) {
	t.Helper()
	if !impl.MemOk(got.mem) {
		t.Fatalf("Assist(%v, %v) = %v, which is not MemOk", m, h, got)
	}
	turned := 0
	for place := range m.Words {
		if m.Words[place] != got.mem.Words[place] {
			turned++
		}
	}
	for i, d := range m.Descs {
		if !descSame(d, got.mem.Descs[i]) {
			turned++
			d.Status = got.mem.Descs[i].Status
			if !descSame(d, got.mem.Descs[i]) || m.Descs[i].Status != impl.DcOpen {
				t.Fatalf("Assist(%v, %v) = %v turns what stays", m, h, got)
			}
		}
	}
	want := meansOf(m)
	if got.how == impl.HpYes {
		for _, e := range m.Descs[h.T].List {
			if want[e.At] != e.Old {
				t.Fatalf("Assist(%v, %v) = %v is done, but %d is not Old", m, h, got, want[e.At])
			}
			want[e.At] = e.New
		}
	}
	if list := meansOf(got.mem); turned > 1 || !slices.Equal(list, want) {
		t.Fatalf("Assist(%v, %v) = %v, by which %v is meant, want %v", m, h, got, list, want)
	}
}

// checkEnd asks that nothing of a try is left when nobody is about it any more: each is done wholly, or not at all.
func checkEnd(t *testing.T, m impl.Mem) {
	t.Helper()
	want := memOf(nil).Words
	for _, d := range m.Descs {
		for _, e := range d.List {
			if d.Status == impl.DcYes {
				want[e.At] = numOf(e.New)
			}
		}
	}
	if !impl.Quiet(m) || !slices.Equal(m.Words, want) {
		t.Fatalf("in the end: %v, want the words %v", m, want)
	}
}

func TestAllOrdersOfTriesThatMeet(t *testing.T) {
	for _, c := range []struct {
		name   string
		first  []impl.Entry
		second []impl.Entry
		// helped are those that a third actor helps, one behind the other, the last one first.
		helped actor
		ends   int
	}{
		{"apart", entriesOf(0, 50, 60, 1, 51, 61), entriesOf(2, 52, 72, 3, 53, 73), actor{{T: 0, Seq: 1}}, 1},
		{"one word in both", entriesOf(0, 50, 60, 1, 51, 61), entriesOf(1, 51, 71, 2, 52, 72), actor{{T: 0, Seq: 1}}, 2},
		{"all words in both", entriesOf(0, 50, 60, 1, 51, 61), entriesOf(0, 50, 70, 1, 51, 71), actor{{T: 1, Seq: 1}, {T: 0, Seq: 1}}, 2},
		{"one is never done", entriesOf(0, 50, 60, 1, 51, 61), entriesOf(0, 50, 70, 1, 51, 71, 2, 0, 72), actor{{T: 1, Seq: 1}}, 1},
		{"what one makes the other needs", entriesOf(0, 50, 60, 1, 51, 61), entriesOf(0, 60, 70, 2, 52, 72), actor{{T: 1, Seq: 1}}, 2},
		{"nothing is changed by one", entriesOf(0, 50, 50, 1, 51, 51), entriesOf(0, 50, 60), nil, 2},
	} {
		m := memOf(nil, impl.Desc{}, impl.Desc{}, impl.Desc{})
		m, a, _ := impl.Begin(m, 0, c.first, resOf(0))
		m, b, ok := impl.Begin(m, 1, c.second, resOf(0, 4))
		if !ok {
			t.Fatal(c.name)
		}
		o := &orders{t: t, seen: map[string]bool{}, ends: map[string]int{}}
		o.from(m, []actor{{a}, {b}, c.helped})
		if len(o.ends) != c.ends {
			t.Errorf("%s: %d states, ends %v", c.name, len(o.seen), slices.Collect(maps.Keys(o.ends)))
		}
	}
}

// run goes on with h till nothing is left to do for it.
func run(t *testing.T, m impl.Mem, h impl.Help) (impl.Mem, int) {
	t.Helper()
	for steps := range 100 {
		got := assist(m, h)
		checkStep(t, m, h, got)
		if got.how == impl.HpPop {
			return got.mem, steps
		}
		m, h = got.mem, got.help
	}
	t.Fatalf("%v goes on and on in %v", h, m)
	return m, 0
}

// What is planned of an op is tried: the words are those of the table then.
func TestPlansAreTriedToTheirEnd(t *testing.T) {
	for _, held := range [][]int{{0, 0, 0, 0}, {5, 0, 2, 0}, {1, 6, 4, 3}} {
		for state := 0; state <= 5; state++ {
			for _, o := range everyOp() {
				checkTried(t, impl.Rows{Held: held, State: state}, o)
			}
		}
	}
}

func checkTried(t *testing.T, r impl.Rows, o impl.Op) {
	t.Helper()
	p := planTold(o, wordsTold(r.Held, r.State))
	if p.Now {
		return
	}
	m, _ := impl.MemNew(r, 2)
	begun, h, ok := impl.Begin(m, 1, p.List, p.Res)
	if !ok || h != helpOf(1, 1, 0, 0) {
		t.Fatalf("Begin(%v, 1, %v, %v) = %v, %v, %v", m, p.List, p.Res, begun, h, ok)
	}
	after := afterTold(r, o, p.Res)
	want, _ := impl.MemNew(after, 1)
	done, steps := run(t, begun, h)
	if !slices.Equal(done.Words, want.Words) || steps != 2*len(p.List)+1 || done.Descs[1].Status != impl.DcYes {
		t.Fatalf("of %v in %v after %d steps: %v", o, r, steps, done)
	}
	// Where one word is another one meanwhile, all words are in the end as they were.
	for i, e := range p.List {
		begun, h, _ := impl.Begin(withWord(m, e.At, numOf(e.Old+1)), 1, p.List, p.Res)
		not, steps := run(t, begun, h)
		if !slices.Equal(not.Words, begun.Words) || steps != i+1+len(p.List) || not.Descs[1].Status != impl.DcNo {
			t.Fatalf("of %v in %v with another word at %d after %d steps: %v", o, r, e.At, steps, not)
		}
	}
}

// begun is what Begin answers.
type begun struct {
	mem  impl.Mem
	help impl.Help
	ok   bool
}

func beginOf(m impl.Mem, thread int, list []impl.Entry, s impl.Res) begun {
	mem, help, ok := impl.Begin(m, thread, list, s)
	return begun{mem, help, ok}
}

// beginTold answers by the document's words what comes of a try that begins.
func beginTold(m impl.Mem, thread int, list []impl.Entry, s impl.Res) begun {
	asItWas := begun{mem: m}
	if !memTold(m) || thread < 0 || thread >= len(m.Descs) {
		return asItWas
	}
	for _, w := range m.Words {
		if w.T == thread+1 {
			return asItWas
		}
	}
	d := impl.Desc{Seq: m.Descs[thread].Seq + 1, Status: 1, List: list, Res: s}
	then := withDesc(m, thread, d)
	if !memTold(then) {
		return asItWas
	}
	return begun{then, helpOf(thread, d.Seq, 0, 0), true}
}

func checkBegin(t *testing.T, m impl.Mem, thread int, list []impl.Entry, s impl.Res, want begun) {
	t.Helper()
	got := beginOf(m, thread, list, s)
	if !memSame(got.mem, want.mem) || got.help != want.help || got.ok != want.ok {
		t.Fatalf("Begin(%v, %d, %v, %v) = %v, want %v", m, thread, list, s, got, want)
	}
}

func TestBeginOfAllEdges(t *testing.T) {
	results := []impl.Res{{}, resOf(3), resOf(-1, 4, math.MaxInt)}
	lists := descLists()
	for i, m := range goodMems() {
		for j, list := range lists {
			for _, thread := range []int{math.MinInt, -2, -1, 0, 1, 2, 3, 4, 5, 256, math.MaxInt} {
				s := results[(i+j)%3]
				checkBegin(t, m, thread, list, s, beginTold(m, thread, list, s))
			}
		}
	}
}

func TestBeginOfWrongMems(t *testing.T) {
	for _, m := range wrongMems() {
		for thread := -1; thread <= 5; thread++ {
			for _, list := range [][]impl.Entry{nil, entriesOf(0, 50, 60), entriesOf(2, 1, 1, 1, 1, 1)} {
				checkBegin(t, m, thread, list, resOf(1, 2), begun{mem: m})
			}
		}
	}
}

func TestBeginIsOneMore(t *testing.T) {
	list, s := entriesOf(0, 50, 60, 19, 1000, 0), resOf(2, 5, 6)
	for _, seq := range []int{0, 1, 2, 41, 999998, 999999} {
		for _, status := range []int{impl.DcOpen, impl.DcYes, impl.DcNo} {
			d := descOf(seq, status, 0, 50, 60)
			if seq == 0 {
				d = impl.Desc{}
			}
			m := memOf(nil, descOf(7, 1, 1, 2, 3), d, impl.Desc{})
			want := memOf(nil, m.Descs[0], impl.Desc{Seq: seq + 1, Status: impl.DcOpen, List: list, Res: s}, impl.Desc{})
			checkBegin(t, m, 1, list, s, begun{want, helpOf(1, seq+1, 0, 0), true})
		}
	}
	// The last Seq is met: there is no further try.
	last := memOf(nil, descOf(1000000, 2, 0, 50, 60), descOf(999999, 2))
	checkBegin(t, last, 0, list, s, begun{mem: last})
	checkBegin(t, last, 0, nil, impl.Res{}, begun{mem: last})
	checkBegin(t, last, 1, nil, impl.Res{}, begun{withDesc(last, 1, descOf(1000000, 1)), helpOf(1, 1000000, 0, 0), true})
}

func TestBeginWhereAMarkIsLeft(t *testing.T) {
	for status := impl.DcOpen; status <= impl.DcNo; status++ {
		d := descOf(4, status, 0, 50, 60, 7, 57, 67, 19, 69, 79)
		for _, place := range []int{0, 7, 19} {
			m := memOf(laid{place: markOf(2, 4)}, descOf(4, 1, 3, 53, 63), d, impl.Desc{})
			for _, list := range [][]impl.Entry{nil, entriesOf(place, 0, 1), d.List, entriesOf(3, 53, 63)} {
				// Only who has a mark left cannot begin: the others can, also in that word.
				checkBegin(t, m, 1, list, resOf(0, 1), begun{mem: m})
				checkBegin(t, m, 0, list, resOf(0, 1), begun{withDesc(m, 0, impl.Desc{Seq: 5, Status: 1, List: list, Res: resOf(0, 1)}), helpOf(0, 5, 0, 0), true})
				checkBegin(t, m, 2, list, resOf(0, 1), begun{withDesc(m, 2, impl.Desc{Seq: 1, Status: 1, List: list, Res: resOf(0, 1)}), helpOf(2, 1, 0, 0), true})
			}
		}
	}
}

func TestBeginOfNoThread(t *testing.T) {
	m, _ := impl.MemNew(impl.RowsNew(), 2)
	for _, thread := range append(outside(0, 1), math.MaxInt, math.MinInt) {
		checkBegin(t, m, thread, nil, impl.Res{}, begun{mem: m})
		checkBegin(t, m, thread, entriesOf(0, 0, 1), impl.Res{}, begun{mem: m})
	}
}

func TestBeginOfAnyRes(t *testing.T) {
	m := memOf(nil, impl.Desc{})
	for _, s := range []impl.Res{{}, {List: []int{}}, resOf(0, 0), resOf(-7), resOf(math.MaxInt, math.MinInt), {List: make([]int, 1000)}} {
		checkBegin(t, m, 0, nil, s, begun{memOf(nil, impl.Desc{Seq: 1, Status: 1, Res: s}), helpOf(0, 1, 0, 0), true})
	}
}

func TestQuiet(t *testing.T) {
	for _, m := range goodMems() {
		marks := 0
		for _, w := range m.Words {
			if w.T != 0 {
				marks++
			}
		}
		if quiet := impl.Quiet(m); quiet != (marks == 0) {
			t.Errorf("Quiet(%v) = %v", m, quiet)
		}
	}
	for _, m := range wrongMems() {
		if impl.Quiet(m) || impl.Quiet(impl.Mem{Words: make([]impl.Word, len(m.Words)), Descs: append(slices.Clone(m.Descs), impl.Desc{Seq: -1})}) {
			t.Errorf("Quiet(%v), which is not MemOk", m)
		}
	}
	// One mark is enough, wherever it is, whatever became of its try.
	for place := range 20 {
		for status := impl.DcOpen; status <= impl.DcNo; status++ {
			m := memOf(nil, impl.Desc{}, impl.Desc{Seq: 8, Status: status, List: manyEntries(20)})
			if !impl.Quiet(m) || impl.Quiet(withWord(m, place, markOf(2, 8))) {
				t.Errorf("Quiet with a mark at %d, of status %d", place, status)
			}
		}
	}
}

// parts are all lists of a memory, and of what is given along with it.
type parts struct {
	words []impl.Word
	descs []impl.Desc
	lists [][]impl.Entry
	told  [][]int
}

func partsOf(m impl.Mem) parts {
	p := parts{words: m.Words, descs: m.Descs}
	for _, d := range m.Descs {
		p.lists = append(p.lists, d.List)
		p.told = append(p.told, d.Res.List)
	}
	return p
}

// texts tells each list, with the spare room behind it. Of a Desc its lists are told as they lie there, not what stands in them.
func (p parts) texts() []string {
	texts := []string{fmt.Sprint(len(p.words), p.words[:cap(p.words)])}
	descs := ""
	for _, d := range p.descs[:cap(p.descs)] {
		descs += fmt.Sprint(d.Seq, d.Status, len(d.List), cap(d.List), d.Res.Code, len(d.Res.List), cap(d.Res.List), ";")
	}
	texts = append(texts, descs)
	for _, list := range p.lists {
		texts = append(texts, fmt.Sprint(len(list), list[:cap(list)]))
	}
	for _, list := range p.told {
		texts = append(texts, fmt.Sprint(len(list), list[:cap(list)]))
	}
	return texts
}

// fill writes into the whole of one of the lists, the spare room too.
func (p parts) fill(i int) {
	switch entries := len(p.lists); {
	case i == 0:
		for j := range p.words[:cap(p.words)] {
			p.words[:cap(p.words)][j] = impl.Word{N: 777, T: 778, Seq: 779}
		}
	case i == 1:
		for j := range p.descs[:cap(p.descs)] {
			p.descs[:cap(p.descs)][j] = impl.Desc{Seq: 780, Status: 781}
		}
	case i-2 < entries:
		list := p.lists[i-2]
		for j := range list[:cap(list)] {
			list[:cap(list)][j] = impl.Entry{At: 782, Old: 783, New: 784}
		}
	default:
		list := p.told[i-2-entries]
		for j := range list[:cap(list)] {
			list[:cap(list)][j] = 785
		}
	}
}

// checkApart asks that a call writes into nothing that it is given, and that what it answers is new memory, each list of it apart from the others.
func checkApart(t *testing.T, name string, given func() parts, call func(parts) impl.Mem) {
	t.Helper()
	ask := func() (parts, parts) {
		g := given()
		before := g.texts()
		a := partsOf(call(g))
		if after := g.texts(); !slices.Equal(before, after) {
			t.Fatalf("%s: %v was written: %v", name, before, after)
		}
		return g, a
	}
	first, answered := ask()
	for i := range first.texts() {
		g, a := ask()
		before := a.texts()
		g.fill(i)
		if after := a.texts(); !slices.Equal(before, after) {
			t.Fatalf("%s: what was written into list %d given stands in the answer %v, which was %v", name, i, after, before)
		}
	}
	for i := range answered.texts() {
		g, a := ask()
		givenBefore, before := g.texts(), a.texts()
		a.fill(i)
		after := a.texts()
		after[i] = before[i]
		if givenAfter := g.texts(); !slices.Equal(givenBefore, givenAfter) || !slices.Equal(before, after) {
			t.Fatalf("%s: what was written into list %d answered stands in %v and %v, which were %v and %v", name, i, givenAfter, after, givenBefore, before)
		}
	}
}

func roomy[T any](list []T, behind T) []T {
	return append(slices.Clone(list), behind, behind, behind)[:len(list)]
}

// roomyOf has m with spare room behind each of its lists.
func roomyOf(m impl.Mem) impl.Mem {
	descs := []impl.Desc{}
	for _, d := range m.Descs {
		d.List = roomy(d.List, impl.Entry{At: 91, Old: 92, New: 93})
		d.Res.List = roomy(d.Res.List, 94)
		descs = append(descs, d)
	}
	return impl.Mem{Words: roomy(m.Words, impl.Word{N: 95, T: 96, Seq: 97}), Descs: roomy(descs, impl.Desc{Seq: 98, Status: 99})}
}

// askedOf makes of parts the memory again that they are of.
func askedOf(p parts) impl.Mem {
	return impl.Mem{Words: p.words, Descs: p.descs}
}

func TestAssistSharesNothing(t *testing.T) {
	for _, m := range slices.Concat(goodMems(), wrongMems()) {
		for i, d := range append(slices.Clone(m.Descs), impl.Desc{Seq: 3}) {
			for _, n := range []int{-1, 0, 1, 2, 3, 20} {
				h := helpOf(i, d.Seq, n, n)
				checkApart(t, fmt.Sprint("Assist ", m, h), func() parts { return partsOf(roomyOf(m)) }, func(p parts) impl.Mem { return assist(askedOf(p), h).mem })
			}
		}
	}
}

func TestBeginSharesNothing(t *testing.T) {
	for _, m := range slices.Concat(goodMems(), wrongMems()) {
		for _, list := range [][]impl.Entry{nil, entriesOf(0, 50, 60, 1, 51, 61), entriesOf(1, 51, 61, 0, 50, 60)} {
			for thread := -1; thread <= 4; thread++ {
				given := func() parts {
					p := partsOf(roomyOf(m))
					p.lists = append(p.lists, roomy(list, impl.Entry{At: 2, Old: 52, New: 62}))
					p.told = append(p.told, roomy([]int{1, 2}, 3))
					return p
				}
				checkApart(t, fmt.Sprint("Begin ", m, thread, list), given, func(p parts) impl.Mem {
					return beginOf(askedOf(p), thread, p.lists[len(p.lists)-1], impl.Res{List: p.told[len(p.told)-1]}).mem
				})
			}
		}
	}
}

// Lists that are one in what is given are apart in what is answered.
func TestHelpAnswersListsApart(t *testing.T) {
	list, told := entriesOf(0, 50, 60, 1, 51, 61), []int{1, 2, 3}
	d := impl.Desc{Seq: 1, Status: impl.DcOpen, List: list, Res: impl.Res{List: told}}
	m := memOf(nil, d, d, d)
	for i := range partsOf(m).texts() {
		for name, a := range map[string]impl.Mem{"Assist": assist(m, helpOf(0, 1, 0, 0)).mem, "Begin": beginOf(m, 1, list, d.Res).mem, "as it was": beginOf(m, 3, list, d.Res).mem} {
			p := partsOf(a)
			before := p.texts()
			p.fill(i)
			after := p.texts()
			after[i] = before[i]
			if !slices.Equal(before, after) {
				t.Errorf("%s: what was written into list %d stands in %v, which was %v", name, i, after, before)
			}
		}
	}
}

func TestMemNewSharesNothing(t *testing.T) {
	for _, r := range append(wrongRows(), impl.RowsNew(), rowsOf(3, 5, 0, 2, 0)) {
		given := func() parts { return parts{told: [][]int{roomy(r.Held, 6)}} }
		checkApart(t, fmt.Sprint("MemNew ", r), given, func(p parts) impl.Mem {
			m, _ := impl.MemNew(impl.Rows{Held: p.told[0], State: r.State}, 3)
			return m
		})
	}
}

func TestMemOkAndQuietWriteIntoNothing(t *testing.T) {
	for _, m := range slices.Concat(goodMems(), wrongMems()) {
		p := partsOf(roomyOf(m))
		before := p.texts()
		if impl.MemOk(askedOf(p)) != impl.MemOk(m) || impl.Quiet(askedOf(p)) != impl.Quiet(m) {
			t.Errorf("what stands behind the lists of %v counts", m)
		}
		if after := p.texts(); !slices.Equal(before, after) {
			t.Errorf("%v was written: %v", before, after)
		}
	}
}

// Nothing is kept: the same step is taken of the same memory, whatever was asked meanwhile.
func TestHelpAnswersTheSameAtEachCall(t *testing.T) {
	mems := goodMems()
	for range 3 {
		for _, m := range mems {
			for i, d := range m.Descs {
				h := helpOf(i, d.Seq, 1, 1)
				checkAssist(t, m, h, assistTold(m, h))
				checkBegin(t, m, i, d.List, d.Res, beginTold(m, i, d.List, d.Res))
			}
		}
	}
}
