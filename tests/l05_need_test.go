package tests

import (
	"math"
	"slices"
	"testing"

	"loop.example/g00468/impl"
)

// Promise 5: what is planned is allowed where it is so; all that is read is checked again.

// pairsOf has a pair of every two numbers: a place, and what was read there.
func pairsOf(told ...int) []impl.Pair {
	list := []impl.Pair{}
	for pair := range slices.Chunk(told, 2) {
		list = append(list, impl.Pair{At: pair[0], N: pair[1]})
	}
	return list
}

// pairsAt has what stands in words at these places.
func pairsAt(words []int, places ...int) []impl.Pair {
	list := []impl.Pair{}
	for _, at := range places {
		list = append(list, impl.Pair{At: at, N: words[at]})
	}
	return list
}

// entriesOf has an entry of every three numbers: a place, what it must be, what it becomes.
func entriesOf(told ...int) []impl.Entry {
	list := []impl.Entry{}
	for entry := range slices.Chunk(told, 3) {
		list = append(list, impl.Entry{At: entry[0], Old: entry[1], New: entry[2]})
	}
	return list
}

func nowOf(code int, list ...int) impl.Plan {
	return impl.Plan{Now: true, Res: resOf(code, list...)}
}

func thenOf(s impl.Res, told ...int) impl.Plan {
	return impl.Plan{Res: s, List: entriesOf(told...)}
}

func planSame(a impl.Plan, b impl.Plan) bool {
	return a.Now == b.Now && a.Res.Code == b.Res.Code && slices.Equal(a.Res.List, b.Res.List) && slices.Equal(a.List, b.List)
}

func TestRead(t *testing.T) {
	least, most := math.MinInt, math.MaxInt
	for _, c := range []struct {
		got  []impl.Pair
		at   int
		want int
		ok   bool
	}{
		{nil, 0, 0, false},
		{[]impl.Pair{}, 0, 0, false},
		{make([]impl.Pair, 0, 4), 0, 0, false},
		{make([]impl.Pair, 4)[:0], 0, 0, false},
		{pairsOf(5, 7), 4, 0, false},
		{pairsOf(5, 7), 7, 0, false},
		{pairsOf(5, 7), 0, 0, false},
		{pairsOf(5, 7), 5, 7, true},
		{pairsOf(5, 0), 5, 0, true},
		{pairsOf(0, 3), 0, 3, true},
		{pairsOf(5, -1), 5, -1, true},
		{pairsOf(5, least, 6, most), 5, least, true},
		{pairsOf(5, least, 6, most), 6, most, true},
		{pairsOf(1, 2, 1, 3), 1, 3, true},
		{pairsOf(1, 3, 1, 2), 1, 2, true},
		{pairsOf(1, 9, 1, 0), 1, 0, true},
		{pairsOf(4, 1, 2, 8, 4, 5, 2, 9, 4, 6, 3, 7), 4, 6, true},
		{pairsOf(4, 1, 2, 8, 4, 5, 2, 9, 4, 6, 3, 7), 2, 9, true},
		{pairsOf(4, 1, 2, 8, 4, 5, 2, 9, 4, 6, 3, 7), 3, 7, true},
		{pairsOf(4, 1, 2, 8, 4, 5, 2, 9, 4, 6, 3, 7), 5, 0, false},
		{pairsOf(19, 4), 19, 4, true},
		{pairsOf(0, 1, 19, 4), -1, 0, false},
		{pairsOf(0, 1, 19, 4), 20, 0, false},
		{pairsOf(0, 1, 19, 4), most, 0, false},
		{pairsOf(0, 1, 19, 4), least, 0, false},
		{pairsOf(-1, 6, 20, 7), -1, 6, true},
		{pairsOf(-1, 6, 20, 7), 20, 7, true},
		{pairsOf(most, 6, least, 7), most, 6, true},
		{pairsOf(most, 6, least, 7), least, 7, true},
	} {
		if n, ok := impl.Read(c.got, c.at); n != c.want || ok != c.ok {
			t.Errorf("Read(%v, %d) = %d, %v, want %d, %v", c.got, c.at, n, ok, c.want, c.ok)
		}
	}
}

func TestReadOfMany(t *testing.T) {
	got := []impl.Pair{}
	for i := range 1000 {
		got = append(got, impl.Pair{At: i % 7, N: i})
	}
	for at := range 7 {
		if n, ok := impl.Read(got, at); !ok || n%7 != at || n < 993 {
			t.Errorf("Read at %d = %d, %v", at, n, ok)
		}
	}
}

// needTold answers by the document's words the places that o, which is OpOk, needs of these words, in order.
func needTold(o impl.Op, words []int) []int {
	held, state := words[o.K], words[13]
	inVia := state > o.K+1
	switch o.Kind {
	case 1:
		switch {
		case held != 0:
			return []int{o.K}
		case words[3+o.V] != 0:
			return []int{o.K, 3 + o.V}
		case !inVia:
			return []int{o.K, 3 + o.V, 10 + o.V%3, 13}
		}
		return []int{o.K, 3 + o.V, 10 + o.V%3, 13, 13 + o.V}
	case 2:
		return needOfSet(o, words)
	case 3:
		switch {
		case held < 1 || held > 6:
			return []int{o.K}
		case !inVia:
			return []int{o.K, 3 + held, 10 + held%3, 13}
		}
		return []int{o.K, 3 + held, 10 + held%3, 13, 13 + held}
	case 4:
		return []int{o.K}
	case 5:
		return []int{3 + o.V}
	case 6:
		return []int{10 + o.K}
	case 7:
		return []int{0, 1, 2, 3}
	case 9:
		switch {
		case state < 1 || state > 4:
			return []int{13}
		case words[state-1] < 1 || words[state-1] > 6:
			return []int{13, state - 1}
		}
		return []int{13, state - 1, 13 + words[state-1]}
	case 10:
		if state == 5 {
			return []int{13, 13 + o.V}
		}
	}
	return []int{13}
}

// needOfSet is needTold of the kind 2.
func needOfSet(o impl.Op, words []int) []int {
	held := words[o.K]
	switch {
	case held == 0 || held == o.V:
		return []int{o.K}
	case words[3+o.V] != 0 || held < 1 || held > 6:
		return []int{o.K, 3 + o.V}
	}
	list := []int{o.K, 3 + o.V, 3 + held}
	if held%3 != o.V%3 {
		list = append(list, 10+held%3, 10+o.V%3)
	}
	list = append(list, 13)
	if words[13] > o.K+1 {
		list = append(list, 13+held, 13+o.V)
	}
	return list
}

// ofOpTold answers by the document's words the places of all words of o where the words are these, ascending, needed or not.
func ofOpTold(o impl.Op, words []int) []int {
	if o.Kind > 3 {
		return slices.Sorted(slices.Values(needTold(o, words)))
	}
	held, list := words[o.K], []int{o.K, 13}
	before := o.Kind != 1 && held >= 1 && held <= 6
	unlike := o.Kind != 2 || !before || held%3 != o.V%3
	if before {
		list = append(list, 3+held, 13+held)
	}
	if before && unlike {
		list = append(list, 10+held%3)
	}
	if o.Kind != 3 {
		list = append(list, 3+o.V, 13+o.V)
	}
	if o.Kind != 3 && unlike {
		list = append(list, 10+o.V%3)
	}
	slices.Sort(list)
	return list
}

// newTold answers by the document's words what becomes of the word at a place that is one of o.
func newTold(o impl.Op, words []int, at int) int {
	n := words[at]
	ofV := at == 3+o.V || at == 10+o.V%3 || at == 13+o.V
	less := 0
	if n > 0 {
		less = n - 1
	}
	switch {
	case at == 13 && (o.Kind == 8 || o.Kind == 9):
		return n + 1
	case at == 13 || o.Kind == 7 || o.Kind == 10:
		return n
	case o.Kind == 9 && at > 13:
		return words[13]
	case o.Kind == 9:
		return n
	case at < 4 && o.Kind == 3:
		return 0
	case at < 4:
		return o.V
	case at >= 10 && at < 13 && ofV && o.Kind != 3:
		return n + 1
	case at >= 10 && at < 13:
		return less
	case ofV && o.Kind != 3:
		return o.K + 1
	}
	return 0
}

// nowTold answers by the document's words what comes of o now, if it does.
func nowTold(o impl.Op, words []int) (impl.Res, bool) {
	held, owner, state := words[o.K], words[3+o.V], words[13]
	switch {
	case o.Kind == 1 && held != 0:
		return resOf(1), true
	case o.Kind == 2 && held == 0 || o.Kind == 3 && held == 0 || o.Kind == 4 && held == 0 || o.Kind == 5 && owner == 0:
		return resOf(3), true
	case o.Kind == 2 && held == o.V:
		return resOf(0), true
	case (o.Kind == 1 || o.Kind == 2) && owner != 0:
		return resOf(2), true
	case o.Kind == 4:
		return resOf(0, held), true
	case o.Kind == 5:
		return resOf(0, owner-1), true
	case o.Kind == 6:
		return resOf(0, words[10+o.K]), true
	case o.Kind == 8 && state != 0 || o.Kind == 9 && (state == 0 || state > 4) || o.Kind == 10 && state != 5:
		return resOf(4), true
	}
	return impl.Res{}, false
}

// planTold answers by the document's words the plan of o, which is OpOk, where the words are these and just those were read that o needs.
func planTold(o impl.Op, words []int) impl.Plan {
	return planOfRead(o, words, needTold(o, words))
}

// planOfRead is planTold where the words at these places were read, all that o needs among them.
func planOfRead(o impl.Op, words []int, places []int) impl.Plan {
	if s, now := nowTold(o, words); now {
		return impl.Plan{Now: true, Res: s}
	}
	p := impl.Plan{}
	switch {
	case o.Kind == 7:
		p.Res = resOf(0, words[:4]...)
	case o.Kind == 10 && words[13+o.V] == 0:
		p.Res = resOf(3)
	case o.Kind == 10:
		p.Res = resOf(0, words[13+o.V]-1)
	}
	for _, at := range ofOpTold(o, words) {
		if slices.Contains(places, at) {
			p.List = append(p.List, impl.Entry{At: at, Old: words[at], New: newTold(o, words, at)})
		}
	}
	return p
}

// readAll reads the words that Next asks for, one by one, to the end.
func readAll(t *testing.T, o impl.Op, words []int) []impl.Pair {
	t.Helper()
	got := make([]impl.Pair, 0, 8)
	for range 20 {
		at := impl.Next(o, got)
		if at == -1 {
			return got
		}
		if at < 0 || at >= 20 || slices.ContainsFunc(got, func(p impl.Pair) bool { return p.At == at }) {
			t.Fatalf("Next(%v, %v) = %d", o, got, at)
		}
		got = append(got, impl.Pair{At: at, N: words[at]})
	}
	t.Fatalf("Next of %v does not end: %v", o, got)
	return nil
}

// checkPlan asks that just the words that o needs are read, in order, and that the plan of them is this one.
func checkPlan(t *testing.T, o impl.Op, words []int, places []int, want impl.Plan) {
	t.Helper()
	got := readAll(t, o, words)
	if !slices.Equal(got, pairsAt(words, places...)) {
		t.Fatalf("%v of %v reads %v, want the places %v", o, words, got, places)
	}
	if p, ok := impl.PlanOf(o, got); !ok || !planSame(p, want) {
		t.Fatalf("PlanOf(%v, %v) = %v, %v, want %v", o, got, p, ok, want)
	}
}

// checkSo asks that what is planned by the words of r is allowed there, and that the words become those of what r is then.
func checkSo(t *testing.T, r impl.Rows, o impl.Op) {
	t.Helper()
	words := impl.WordsOf(r)
	got := readAll(t, o, words)
	p, ok := impl.PlanOf(o, got)
	if !ok || !impl.Allowed(r, o, p.Res) {
		t.Fatalf("of %v in %v: %v, %v is planned", o, r, p, ok)
	}
	if !p.Now && len(p.List) != len(got) {
		t.Fatalf("of %v in %v: %v was read, but %v is checked", o, r, got, p.List)
	}
	for _, e := range p.List {
		if words[e.At] != e.Old {
			t.Fatalf("of %v in %v: Old is not as read in %v", o, r, p.List)
		}
		words[e.At] = e.New
	}
	if after := impl.After(r, o, p.Res); !slices.Equal(words, impl.WordsOf(after)) {
		t.Fatalf("of %v in %v: the words become %v, not those of %v", o, r, words, after)
	}
}

func TestWhatIsPlannedIsAllowed(t *testing.T) {
	ops := everyOp()
	for _, r := range everyRows() {
		for _, o := range ops {
			checkSo(t, r, o)
		}
	}
}

func TestPlansOfEveryRowsAndOp(t *testing.T) {
	ops := everyOp()
	for _, r := range everyRows() {
		words := wordsTold(r.Held, r.State)
		for _, o := range ops {
			checkPlan(t, o, words, needTold(o, words), planTold(o, words))
		}
	}
}

// strayWords has words that are none of a table: of each sort with each number that is an edge.
func strayWords() [][]int {
	list := [][]int{}
	least, most := math.MinInt, math.MaxInt
	for _, row := range []int{least, -1, 0, 1, 2, 3, 6, 7, 1 << 32, most} {
		for _, state := range []int{least, least + 1, -1, 0, 1, 2, 3, 4, 5, 6, most - 1, most} {
			for _, owner := range []int{0, 1, -1, most} {
				for i, count := range []int{least, -1, 0, 1, 2, most} {
					words := make([]int, 20)
					for at := range words {
						switch {
						case at < 4:
							words[at] = row
						case at < 10:
							words[at] = owner
						case at < 13:
							words[at] = count
						case at == 13:
							words[at] = state
						default:
							words[at] = []int{0, 1, -1, 4, least, most}[i]
						}
					}
					list = append(list, words)
				}
			}
		}
	}
	return list
}

func TestPlansOfStrayWords(t *testing.T) {
	ops := everyOp()
	for _, words := range strayWords() {
		for _, o := range ops {
			checkPlan(t, o, words, needTold(o, words), planTold(o, words))
		}
	}
}

// wordsWith has the words of the rows 5, 0, 2, 0 with that state, but the places told are as told.
func wordsWith(state int, told ...int) []int {
	words := wordsTold([]int{5, 0, 2, 0}, state)
	for _, p := range pairsOf(told...) {
		words[p.At] = p.N
	}
	return words
}

// A planCase is one that the document names: which places are read of these words, and what is planned then.
type planCase struct {
	o     impl.Op
	words []int
	reads []int
	want  impl.Plan
}

func checkPlans(t *testing.T, cases []planCase) {
	t.Helper()
	for _, c := range cases {
		checkPlan(t, c.o, c.words, c.reads, c.want)
	}
}

func TestPlanOfPut(t *testing.T) {
	put := opOf(1, 1, 3)
	checkPlans(t, []planCase{
		{opOf(1, 0, 3), wordsWith(2), []int{0}, nowOf(1)},
		{opOf(1, 0, 5), wordsWith(2), []int{0}, nowOf(1)},
		{put, wordsWith(2, 1, -1), []int{1}, nowOf(1)},
		{put, wordsWith(2, 1, math.MaxInt), []int{1}, nowOf(1)},
		{opOf(1, 1, 2), wordsWith(2), []int{1, 5}, nowOf(2)},
		{put, wordsWith(2, 6, -1), []int{1, 6}, nowOf(2)},
		{put, wordsWith(0), []int{1, 6, 10, 13}, thenOf(resOf(0), 1, 0, 3, 6, 0, 2, 10, 0, 1, 13, 0, 0)},
		{put, wordsWith(1), []int{1, 6, 10, 13}, thenOf(resOf(0), 1, 0, 3, 6, 0, 2, 10, 0, 1, 13, 1, 1)},
		{put, wordsWith(2), []int{1, 6, 10, 13}, thenOf(resOf(0), 1, 0, 3, 6, 0, 2, 10, 0, 1, 13, 2, 2)},
		{put, wordsWith(3), []int{1, 6, 10, 13, 16}, thenOf(resOf(0), 1, 0, 3, 6, 0, 2, 10, 0, 1, 13, 3, 3, 16, 0, 2)},
		{put, wordsWith(5, 16, 4), []int{1, 6, 10, 13, 16}, thenOf(resOf(0), 1, 0, 3, 6, 0, 2, 10, 0, 1, 13, 5, 5, 16, 4, 2)},
		{put, wordsWith(-1), []int{1, 6, 10, 13}, thenOf(resOf(0), 1, 0, 3, 6, 0, 2, 10, 0, 1, 13, -1, -1)},
		{put, wordsWith(0, 10, -7), []int{1, 6, 10, 13}, thenOf(resOf(0), 1, 0, 3, 6, 0, 2, 10, -7, -6, 13, 0, 0)},
		{put, wordsWith(0, 10, math.MinInt), []int{1, 6, 10, 13}, thenOf(resOf(0), 1, 0, 3, 6, 0, 2, 10, math.MinInt, math.MinInt+1, 13, 0, 0)},
		{put, wordsWith(0, 10, math.MaxInt-1), []int{1, 6, 10, 13}, thenOf(resOf(0), 1, 0, 3, 6, 0, 2, 10, math.MaxInt-1, math.MaxInt, 13, 0, 0)},
		{opOf(1, 3, 6), wordsWith(4), []int{3, 9, 10, 13}, thenOf(resOf(0), 3, 0, 6, 9, 0, 4, 10, 0, 1, 13, 4, 4)},
		{opOf(1, 3, 6), wordsWith(5), []int{3, 9, 10, 13, 19}, thenOf(resOf(0), 3, 0, 6, 9, 0, 4, 10, 0, 1, 13, 5, 5, 19, 0, 4)},
		{opOf(1, 3, 1), wordsWith(math.MaxInt), []int{3, 4, 11, 13, 14}, thenOf(resOf(0), 3, 0, 1, 4, 0, 4, 11, 0, 1, 13, math.MaxInt, math.MaxInt, 14, 0, 4)},
	})
}

func TestPlanOfSet(t *testing.T) {
	set := opOf(2, 0, 3)
	checkPlans(t, []planCase{
		{opOf(2, 1, 3), wordsWith(2), []int{1}, nowOf(3)},
		{opOf(2, 1, 2), wordsWith(2), []int{1}, nowOf(3)},
		{opOf(2, 0, 5), wordsWith(2), []int{0}, nowOf(0)},
		{opOf(2, 0, 2), wordsWith(2), []int{0, 5}, nowOf(2)},
		{set, wordsWith(2, 6, -1), []int{0, 6}, nowOf(2)},
		{set, wordsWith(0), []int{0, 6, 8, 12, 10, 13}, thenOf(resOf(0), 0, 5, 3, 6, 0, 1, 8, 1, 0, 10, 0, 1, 12, 2, 1, 13, 0, 0)},
		{set, wordsWith(1), []int{0, 6, 8, 12, 10, 13}, thenOf(resOf(0), 0, 5, 3, 6, 0, 1, 8, 1, 0, 10, 0, 1, 12, 2, 1, 13, 1, 1)},
		{set, wordsWith(2), []int{0, 6, 8, 12, 10, 13, 18, 16}, thenOf(resOf(0), 0, 5, 3, 6, 0, 1, 8, 1, 0, 10, 0, 1, 12, 2, 1, 13, 2, 2, 16, 0, 1, 18, 1, 0)},
		{set, wordsWith(0, 8, 0, 10, 8, 12, 1), []int{0, 6, 8, 12, 10, 13}, thenOf(resOf(0), 0, 5, 3, 6, 0, 1, 8, 0, 0, 10, 8, 9, 12, 1, 0, 13, 0, 0)},
		{set, wordsWith(0, 12, 0), []int{0, 6, 8, 12, 10, 13}, thenOf(resOf(0), 0, 5, 3, 6, 0, 1, 8, 1, 0, 10, 0, 1, 12, 0, 0, 13, 0, 0)},
		{set, wordsWith(0, 12, -9), []int{0, 6, 8, 12, 10, 13}, thenOf(resOf(0), 0, 5, 3, 6, 0, 1, 8, 1, 0, 10, 0, 1, 12, -9, 0, 13, 0, 0)},
		{set, wordsWith(0, 12, math.MaxInt), []int{0, 6, 8, 12, 10, 13}, thenOf(resOf(0), 0, 5, 3, 6, 0, 1, 8, 1, 0, 10, 0, 1, 12, math.MaxInt, math.MaxInt-1, 13, 0, 0)},
		{opOf(2, 2, 6), wordsWith(3), []int{2, 9, 5, 12, 10, 13}, thenOf(resOf(0), 2, 2, 6, 5, 3, 0, 9, 0, 3, 10, 0, 1, 12, 2, 1, 13, 3, 3)},
		{opOf(2, 2, 6), wordsWith(4), []int{2, 9, 5, 12, 10, 13, 15, 19}, thenOf(resOf(0), 2, 2, 6, 5, 3, 0, 9, 0, 3, 10, 0, 1, 12, 2, 1, 13, 4, 4, 15, 3, 0, 19, 0, 3)},
		{opOf(2, 2, 2), wordsWith(4, 2, 5, 5, 0), []int{2, 5, 8, 13, 18, 15}, thenOf(resOf(0), 2, 5, 2, 5, 0, 3, 8, 1, 0, 13, 4, 4, 15, 3, 3, 18, 1, 0)},
		{opOf(2, 0, 2), wordsWith(1, 5, 0), []int{0, 5, 8, 13}, thenOf(resOf(0), 0, 5, 2, 5, 0, 1, 8, 1, 0, 13, 1, 1)},
		{opOf(2, 0, 1), wordsWith(1, 0, 4), []int{0, 4, 7, 13}, thenOf(resOf(0), 0, 4, 1, 4, 0, 1, 7, 0, 0, 13, 1, 1)},
		{set, wordsWith(2, 0, 7), []int{0, 6}, thenOf(resOf(0), 0, 7, 3, 6, 0, 1)},
		{set, wordsWith(2, 0, -1), []int{0, 6}, thenOf(resOf(0), 0, -1, 3, 6, 0, 1)},
		{set, wordsWith(2, 0, math.MaxInt), []int{0, 6}, thenOf(resOf(0), 0, math.MaxInt, 3, 6, 0, 1)},
		{set, wordsWith(2, 0, math.MinInt), []int{0, 6}, thenOf(resOf(0), 0, math.MinInt, 3, 6, 0, 1)},
		{set, wordsWith(2, 0, 7, 6, 4), []int{0, 6}, nowOf(2)},
	})
}

func TestPlanOfDel(t *testing.T) {
	del := opOf(3, 2, 0)
	checkPlans(t, []planCase{
		{opOf(3, 1, 0), wordsWith(2), []int{1}, nowOf(3)},
		{del, wordsWith(0), []int{2, 5, 12, 13}, thenOf(resOf(0), 2, 2, 0, 5, 3, 0, 12, 2, 1, 13, 0, 0)},
		{del, wordsWith(2), []int{2, 5, 12, 13}, thenOf(resOf(0), 2, 2, 0, 5, 3, 0, 12, 2, 1, 13, 2, 2)},
		{del, wordsWith(3), []int{2, 5, 12, 13}, thenOf(resOf(0), 2, 2, 0, 5, 3, 0, 12, 2, 1, 13, 3, 3)},
		{del, wordsWith(4), []int{2, 5, 12, 13, 15}, thenOf(resOf(0), 2, 2, 0, 5, 3, 0, 12, 2, 1, 13, 4, 4, 15, 3, 0)},
		{del, wordsWith(6), []int{2, 5, 12, 13, 15}, thenOf(resOf(0), 2, 2, 0, 5, 3, 0, 12, 2, 1, 13, 6, 6, 15, 3, 0)},
		{del, wordsWith(0, 12, 1), []int{2, 5, 12, 13}, thenOf(resOf(0), 2, 2, 0, 5, 3, 0, 12, 1, 0, 13, 0, 0)},
		{del, wordsWith(0, 12, 0), []int{2, 5, 12, 13}, thenOf(resOf(0), 2, 2, 0, 5, 3, 0, 12, 0, 0, 13, 0, 0)},
		{del, wordsWith(0, 12, -1), []int{2, 5, 12, 13}, thenOf(resOf(0), 2, 2, 0, 5, 3, 0, 12, -1, 0, 13, 0, 0)},
		{del, wordsWith(0, 12, math.MinInt), []int{2, 5, 12, 13}, thenOf(resOf(0), 2, 2, 0, 5, 3, 0, 12, math.MinInt, 0, 13, 0, 0)},
		{del, wordsWith(0, 12, math.MaxInt), []int{2, 5, 12, 13}, thenOf(resOf(0), 2, 2, 0, 5, 3, 0, 12, math.MaxInt, math.MaxInt-1, 13, 0, 0)},
		{del, wordsWith(0, 5, 0), []int{2, 5, 12, 13}, thenOf(resOf(0), 2, 2, 0, 5, 0, 0, 12, 2, 1, 13, 0, 0)},
		{del, wordsWith(4, 2, 7), []int{2}, thenOf(resOf(0), 2, 7, 0)},
		{del, wordsWith(4, 2, -1), []int{2}, thenOf(resOf(0), 2, -1, 0)},
		{del, wordsWith(4, 2, math.MaxInt), []int{2}, thenOf(resOf(0), 2, math.MaxInt, 0)},
		{del, wordsWith(4, 2, math.MinInt), []int{2}, thenOf(resOf(0), 2, math.MinInt, 0)},
	})
}

func TestPlanOfWhatIsAskedOfOneWord(t *testing.T) {
	checkPlans(t, []planCase{
		{opOf(4, 1, 0), wordsWith(2), []int{1}, nowOf(3)},
		{opOf(4, 2, 0), wordsWith(2), []int{2}, nowOf(0, 2)},
		{opOf(4, 2, 0), wordsWith(2, 2, -1), []int{2}, nowOf(0, -1)},
		{opOf(5, 0, 6), wordsWith(2), []int{9}, nowOf(3)},
		{opOf(5, 0, 5), wordsWith(2), []int{8}, nowOf(0, 0)},
		{opOf(5, 0, 2), wordsWith(2), []int{5}, nowOf(0, 2)},
		{opOf(5, 0, 2), wordsWith(2, 5, -3), []int{5}, nowOf(0, -4)},
		{opOf(6, 0, 0), wordsWith(2), []int{10}, nowOf(0, 0)},
		{opOf(6, 2, 0), wordsWith(2), []int{12}, nowOf(0, 2)},
		{opOf(6, 1, 0), wordsWith(2, 11, -1), []int{11}, nowOf(0, -1)},
		{opOf(6, 1, 0), wordsWith(2, 11, math.MaxInt), []int{11}, nowOf(0, math.MaxInt)},
		{opOf(8, 0, 0), wordsWith(0), []int{13}, thenOf(resOf(0), 13, 0, 1)},
		{opOf(8, 0, 0), wordsWith(1), []int{13}, nowOf(4)},
		{opOf(8, 0, 0), wordsWith(5), []int{13}, nowOf(4)},
		{opOf(8, 0, 0), wordsWith(-1), []int{13}, nowOf(4)},
	})
}

func TestPlanOfWhatIsAskedOfSeveralWords(t *testing.T) {
	scan, add, via := opOf(7, 0, 0), opOf(9, 0, 0), opOf(10, 0, 2)
	checkPlans(t, []planCase{
		{scan, wordsWith(0), []int{0, 1, 2, 3}, thenOf(resOf(0, 5, 0, 2, 0), 0, 5, 5, 1, 0, 0, 2, 2, 2, 3, 0, 0)},
		{scan, wordsWith(0, 0, 9, 3, -1), []int{0, 1, 2, 3}, thenOf(resOf(0, 9, 0, 2, -1), 0, 9, 9, 1, 0, 0, 2, 2, 2, 3, -1, -1)},
		{add, wordsWith(0), []int{13}, nowOf(4)},
		{add, wordsWith(1), []int{13, 0, 18}, thenOf(resOf(0), 0, 5, 5, 13, 1, 2, 18, 0, 1)},
		{add, wordsWith(2), []int{13, 1}, thenOf(resOf(0), 1, 0, 0, 13, 2, 3)},
		{add, wordsWith(3), []int{13, 2, 15}, thenOf(resOf(0), 2, 2, 2, 13, 3, 4, 15, 0, 3)},
		{add, wordsWith(4), []int{13, 3}, thenOf(resOf(0), 3, 0, 0, 13, 4, 5)},
		{add, wordsWith(4, 3, 6, 19, 2), []int{13, 3, 19}, thenOf(resOf(0), 3, 6, 6, 13, 4, 5, 19, 2, 4)},
		{add, wordsWith(4, 3, 7), []int{13, 3}, thenOf(resOf(0), 3, 7, 7, 13, 4, 5)},
		{add, wordsWith(4, 3, -1), []int{13, 3}, thenOf(resOf(0), 3, -1, -1, 13, 4, 5)},
		{add, wordsWith(5), []int{13}, nowOf(4)},
		{add, wordsWith(math.MaxInt), []int{13}, nowOf(4)},
		{add, wordsWith(-1), []int{13}, thenOf(resOf(0), 13, -1, 0)},
		{add, wordsWith(math.MinInt), []int{13}, thenOf(resOf(0), 13, math.MinInt, math.MinInt+1)},
		{via, wordsWith(0), []int{13}, nowOf(4)},
		{via, wordsWith(4), []int{13}, nowOf(4)},
		{via, wordsWith(6), []int{13}, nowOf(4)},
		{via, wordsWith(-5), []int{13}, nowOf(4)},
		{via, wordsWith(5), []int{13, 15}, thenOf(resOf(0, 2), 13, 5, 5, 15, 3, 3)},
		{via, wordsWith(5, 15, 1), []int{13, 15}, thenOf(resOf(0, 0), 13, 5, 5, 15, 1, 1)},
		{via, wordsWith(5, 15, -1), []int{13, 15}, thenOf(resOf(0, -2), 13, 5, 5, 15, -1, -1)},
		{opOf(10, 0, 6), wordsWith(5), []int{13, 19}, thenOf(resOf(3), 13, 5, 5, 19, 0, 0)},
	})
}

// somePlans goes through every op by words of each kind.
func somePlans(ask func(o impl.Op, words []int)) {
	for state := -1; state <= 6; state++ {
		for _, words := range [][]int{
			wordsTold([]int{0, 0, 0, 0}, state), wordsTold([]int{5, 0, 2, 0}, state), wordsTold([]int{1, 6, 4, 3}, state),
			wordsWith(state, 0, 7, 1, -1, 2, math.MaxInt, 3, math.MinInt), wordsWith(state, 5, 0, 6, 0, 8, 0, 10, -1, 12, 0),
		} {
			for _, o := range everyOp() {
				ask(o, words)
			}
		}
	}
}

// A word that is missing is the next one, whatever was read of those behind it, and there is no plan without it.
func TestNextIsTheFirstThatIsMissing(t *testing.T) {
	somePlans(func(o impl.Op, words []int) {
		places := needTold(o, words)
		for i, at := range places {
			without := slices.Concat(pairsAt(words, places[:i]...), pairsAt(words, places[i+1:]...))
			ahead := pairsAt(words, places[:i]...)
			for _, got := range [][]impl.Pair{without, ahead} {
				if next := impl.Next(o, got); next != at {
					t.Fatalf("Next(%v, %v) = %d, want %d", o, got, next, at)
				}
				if p, ok := impl.PlanOf(o, got); ok || !planSame(p, impl.Plan{}) {
					t.Fatalf("PlanOf(%v, %v) = %v, %v without %d", o, got, p, ok, at)
				}
			}
		}
	})
}

// checkReads asks that nothing more must be known than got, and that all of it is planned with, as it was read last.
func checkReads(t *testing.T, o impl.Op, got []impl.Pair) {
	t.Helper()
	if at := impl.Next(o, got); at != -1 {
		t.Fatalf("Next(%v, %v) = %d, want -1", o, got, at)
	}
	words, places := make([]int, 20), []int{}
	for _, p := range got {
		if p.At >= 0 && p.At < 20 {
			words[p.At] = p.N
			places = append(places, p.At)
		}
	}
	want := planOfRead(o, words, places)
	if p, ok := impl.PlanOf(o, got); !ok || !planSame(p, want) {
		t.Fatalf("PlanOf(%v, %v) = %v, %v, want %v", o, got, p, ok, want)
	}
}

func TestOrderOfReadingDoesNotCount(t *testing.T) {
	somePlans(func(o impl.Op, words []int) {
		places := needTold(o, words)
		for range places {
			places = append(slices.Clone(places[1:]), places[0])
			checkReads(t, o, pairsAt(words, places...))
		}
		slices.Reverse(places)
		checkReads(t, o, pairsAt(words, places...))
	})
}

// nowhere has pairs at places that are none.
func nowhere() []impl.Pair {
	return pairsOf(-1, 1, -1, 3, 20, 3, math.MinInt, 2, math.MaxInt, 5, -2, 4, 255, 1, 1<<32, 6)
}

func TestWordsThatAreNotOfTheOpDoNotCount(t *testing.T) {
	none := nowhere()
	somePlans(func(o impl.Op, words []int) {
		places := needTold(o, words)
		needed, others := pairsAt(words, places...), []impl.Pair{}
		ofOp := ofOpTold(o, words)
		for at, n := range words {
			if !slices.Contains(ofOp, at) {
				others = append(others, impl.Pair{At: at, N: n})
			}
		}
		for _, got := range [][]impl.Pair{slices.Concat(needed, others), slices.Concat(none, others, needed), slices.Concat(needed, none)} {
			checkReads(t, o, got)
			if p, _ := impl.PlanOf(o, got); !planSame(p, planTold(o, words)) {
				t.Fatalf("PlanOf(%v, %v) = %v, want %v", o, got, p, planTold(o, words))
			}
		}
		for i, at := range places {
			if next := impl.Next(o, slices.Concat(none, needed[:i], none)); next != at {
				t.Fatalf("Next of %v by %v and places that are none = %d, want %d", o, needed[:i], next, at)
			}
		}
	})
}

// subsets goes through every choice of these places.
func subsets(places []int, ask func(chosen []int)) {
	for bits := range 1 << len(places) {
		chosen := []int{}
		for i, at := range places {
			if bits>>i&1 == 1 {
				chosen = append(chosen, at)
			}
		}
		ask(chosen)
	}
}

// A word of the op that was read is checked again, also where Next does not ask for it.
func TestAllThatWasReadIsPlanned(t *testing.T) {
	somePlans(func(o impl.Op, words []int) {
		needed := needTold(o, words)
		further := slices.DeleteFunc(ofOpTold(o, words), func(at int) bool { return slices.Contains(needed, at) })
		subsets(further, func(chosen []int) {
			for _, n := range []int{math.MinInt, -1, 0, 1, 5, math.MaxInt - 1} {
				got := pairsAt(words, needed...)
				for _, at := range chosen {
					got = append(got, impl.Pair{At: at, N: n})
				}
				checkReads(t, o, got)
				slices.Reverse(got)
				checkReads(t, o, slices.Concat(nowhere(), got))
			}
		})
	})
}

func TestAllThatWasReadIsPlannedOfEveryRows(t *testing.T) {
	ops := everyOp()
	for _, r := range everyRows() {
		words := wordsTold(r.Held, r.State)
		all := []impl.Pair{}
		for at, n := range words {
			all = append(all, impl.Pair{At: at, N: n})
		}
		for _, o := range ops {
			checkReads(t, o, all)
			if p, _ := impl.PlanOf(o, all); !impl.Allowed(r, o, p.Res) {
				t.Fatalf("of %v in %v: %v is planned", o, r, p)
			}
		}
	}
}

func TestPlanOfWhatNeedNotHaveBeenRead(t *testing.T) {
	put, set, del, next := opOf(1, 1, 3), opOf(2, 0, 3), opOf(3, 2, 0), opOf(9, 0, 0)
	for _, c := range []struct {
		o    impl.Op
		got  []impl.Pair
		want impl.Plan
	}{
		{put, pairsOf(1, 0, 6, 0, 10, 0, 13, 2, 16, 4), thenOf(resOf(0), 1, 0, 3, 6, 0, 2, 10, 0, 1, 13, 2, 2, 16, 4, 2)},
		{put, pairsOf(16, 0, 1, 0, 6, 0, 10, 0, 13, -1), thenOf(resOf(0), 1, 0, 3, 6, 0, 2, 10, 0, 1, 13, -1, -1, 16, 0, 2)},
		{put, pairsOf(1, 0, 6, 0, 10, 0, 13, 2, 15, 4), thenOf(resOf(0), 1, 0, 3, 6, 0, 2, 10, 0, 1, 13, 2, 2)},
		{put, pairsOf(1, 5, 6, 0, 10, 0, 13, 2, 16, 4), nowOf(1)},
		{put, pairsOf(1, 0, 6, 2, 10, 0, 13, 2, 16, 4), nowOf(2)},
		{set, pairsOf(0, 5, 6, 0, 8, 1, 12, 2, 10, 0, 13, 1, 16, 4), thenOf(resOf(0), 0, 5, 3, 6, 0, 1, 8, 1, 0, 10, 0, 1, 12, 2, 1, 13, 1, 1, 16, 4, 1)},
		{set, pairsOf(0, 5, 6, 0, 8, 1, 12, 2, 10, 0, 13, 1, 18, 4), thenOf(resOf(0), 0, 5, 3, 6, 0, 1, 8, 1, 0, 10, 0, 1, 12, 2, 1, 13, 1, 1, 18, 4, 0)},
		{set, pairsOf(0, 6, 6, 0, 9, 1, 10, 2, 13, 1, 19, 1, 16, 0), thenOf(resOf(0), 0, 6, 3, 6, 0, 1, 9, 1, 0, 13, 1, 1, 16, 0, 1, 19, 1, 0)},
		{set, pairsOf(0, 7, 6, 0, 13, 1), thenOf(resOf(0), 0, 7, 3, 6, 0, 1, 13, 1, 1)},
		{set, pairsOf(0, 7, 6, 0, 10, 2, 11, 2, 12, 2), thenOf(resOf(0), 0, 7, 3, 6, 0, 1, 10, 2, 3)},
		{set, pairsOf(0, -1, 6, 0, 16, 2), thenOf(resOf(0), 0, -1, 3, 6, 0, 1, 16, 2, 1)},
		{set, pairsOf(0, 7, 6, 0, 13, 5, 16, 2, -1, 8), thenOf(resOf(0), 0, 7, 3, 6, 0, 1, 13, 5, 5, 16, 2, 1)},
		{set, pairsOf(0, 7, 6, 4, 13, 5, 16, 2), nowOf(2)},
		{set, pairsOf(0, 0, 6, 0, 13, 5, 16, 2), nowOf(3)},
		{del, pairsOf(2, 2, 5, 3, 12, 0, 13, 3, 15, 6), thenOf(resOf(0), 2, 2, 0, 5, 3, 0, 12, 0, 0, 13, 3, 3, 15, 6, 0)},
		{del, pairsOf(2, 7, 13, 5, 4, 1, 10, 1, 14, 1, -1, 3), thenOf(resOf(0), 2, 7, 0, 13, 5, 5)},
		{del, pairsOf(2, 0, 13, 5), nowOf(3)},
		{next, pairsOf(13, -1, -1, 3, 16, 5), thenOf(resOf(0), 13, -1, 0)},
		{next, pairsOf(13, 1, 0, 7, 14, 1, -1, 3), thenOf(resOf(0), 0, 7, 7, 13, 1, 2)},
	} {
		if p, ok := impl.PlanOf(c.o, c.got); !ok || !planSame(p, c.want) {
			t.Errorf("PlanOf(%v, %v) = %v, %v, want %v", c.o, c.got, p, ok, c.want)
		}
	}
}

func TestWhatWasReadLastCounts(t *testing.T) {
	somePlans(func(o impl.Op, words []int) {
		needed := pairsAt(words, needTold(o, words)...)
		for _, n := range []int{math.MinInt, -1, 0, 1, 2, 3, 5, 6, 7, math.MaxInt} {
			ahead := []impl.Pair{}
			for at := range words {
				ahead = append(ahead, impl.Pair{At: at, N: n})
			}
			checkReads(t, o, slices.Concat(ahead, needed))
			between := []impl.Pair{}
			for _, p := range needed {
				between = append(between, impl.Pair{At: p.At, N: n}, p)
			}
			checkReads(t, o, between)
		}
	})
	for _, c := range []struct {
		o    impl.Op
		got  []impl.Pair
		want int
	}{
		{opOf(1, 0, 1), pairsOf(0, 5, 0, 0), 4},
		{opOf(1, 0, 1), pairsOf(0, 0, 0, 5), -1},
		{opOf(2, 0, 1), pairsOf(0, 0, 0, 2), 4},
		{opOf(2, 0, 1), pairsOf(0, 2, 4, 0, 0, 3), 6},
		{opOf(3, 0, 0), pairsOf(0, 2, 5, 1, 0, 6), 9},
		{opOf(9, 0, 0), pairsOf(13, 1, 0, 0, 13, 2), 1},
		{opOf(10, 0, 4), pairsOf(13, 5, 13, 4), -1},
		{opOf(10, 0, 4), pairsOf(13, 4, 13, 5), 17},
	} {
		if at := impl.Next(c.o, c.got); at != c.want {
			t.Errorf("Next(%v, %v) = %d, want %d", c.o, c.got, at, c.want)
		}
	}
}

func TestNextBeginsWithNothingRead(t *testing.T) {
	for _, o := range everyOp() {
		want := needTold(o, make([]int, 20))[0]
		for _, got := range [][]impl.Pair{nil, {}, make([]impl.Pair, 0, 9), slices.Repeat(pairsOf(want, 1), 3)[:0]} {
			if at := impl.Next(o, got); at != want {
				t.Errorf("Next(%v, nothing) = %d, want %d", o, at, want)
			}
			if p, ok := impl.PlanOf(o, got); ok || !planSame(p, impl.Plan{}) {
				t.Errorf("PlanOf(%v, nothing) = %v, %v", o, p, ok)
			}
		}
	}
}

func TestNothingIsPlannedOfWrongOps(t *testing.T) {
	all := pairsOf()
	for at, n := range wordsWith(5) {
		all = append(all, impl.Pair{At: at, N: n})
	}
	for _, o := range wrongOps() {
		for _, got := range [][]impl.Pair{nil, {}, all, all[:4], all[13:], pairsOf(-1, 3), pairsOf(0, 0, 0, 5)} {
			if at := impl.Next(o, got); at != -1 {
				t.Errorf("Next(%v, %v) = %d, want -1", o, got, at)
			}
			if p, ok := impl.PlanOf(o, got); ok || !planSame(p, impl.Plan{}) {
				t.Errorf("PlanOf(%v, %v) = %v, %v", o, got, p, ok)
			}
		}
	}
}

// readWithRoom has what o needs of words, out of order and some of it twice, ahead of spare room; it answers how many come ahead of that too.
func readWithRoom(o impl.Op, words []int) ([]impl.Pair, int) {
	needed := pairsAt(words, needTold(o, words)...)
	slices.Reverse(needed)
	got := slices.Concat(needed[:1], needed, pairsOf(91, 92, 0, 93, 13, 94, 5, 95, 6, 96, 97, 98))
	return got, len(needed) + 1
}

func TestWhatWasReadIsNotWrittenInto(t *testing.T) {
	somePlans(func(o impl.Op, words []int) {
		got, n := readWithRoom(o, words)
		before := slices.Clone(got)
		for many := range n + 1 {
			impl.Read(got[:many], 13)
			impl.Next(o, got[:many])
			impl.PlanOf(o, got[:many])
		}
		if !slices.Equal(got, before) {
			t.Fatalf("of %v: %v was written, with the spare room behind it: %v", o, before, got)
		}
	})
}

func TestPlanSharesNothing(t *testing.T) {
	somePlans(func(o impl.Op, words []int) {
		got, n := readWithRoom(o, words)
		first, _ := impl.PlanOf(o, got[:n])
		second, _ := impl.PlanOf(o, got[:n])
		for i := range got {
			got[i] = impl.Pair{At: 70, N: 71}
		}
		for i := range first.List[:cap(first.List)] {
			first.List[:cap(first.List)][i] = impl.Entry{At: 80, Old: 81, New: 82}
		}
		for i := range first.Res.List[:cap(first.Res.List)] {
			first.Res.List[:cap(first.Res.List)][i] = 90
		}
		if want := planTold(o, words); !planSame(second, want) {
			t.Fatalf("of %v: what was read and another plan were written into: %v, want %v", o, second, want)
		}
		if slices.ContainsFunc(got, func(p impl.Pair) bool { return p.At != 70 || p.N != 71 }) {
			t.Fatalf("of %v: what was written into the plan stands in %v", o, got)
		}
	})
}
