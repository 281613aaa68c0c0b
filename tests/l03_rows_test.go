package tests

import (
	"math"
	"slices"
	"testing"

	"loop.example/g00468/impl"
)

// Promise 3: what is held once is found.

func rowsOf(state int, held ...int) impl.Rows {
	return impl.Rows{Held: held, State: state}
}

// everyHeld has every list of Keys numbers from -1 to Vals + 1.
func everyHeld() [][]int {
	lists := [][]int{{}}
	for range impl.Keys {
		longer := [][]int{}
		for _, list := range lists {
			for v := -1; v <= impl.Vals+1; v++ {
				longer = append(longer, append(slices.Clone(list), v))
			}
		}
		lists = longer
	}
	return lists
}

// holdsOk says by the document's words, position by position, whether held can be what the keys hold.
func holdsOk(held []int) bool {
	for k, v := range held {
		if v < 0 || v > 6 || v != 0 && slices.Contains(held[:k], v) {
			return false
		}
	}
	return len(held) == 4
}

// wrongRows has rows that are not RowsOk, for each reason that there is.
func wrongRows() []impl.Rows {
	list := []impl.Rows{
		{}, rowsOf(5), rowsOf(1, 1, 2, 3), rowsOf(1, 1, 2, 3, 4, 5), rowsOf(1, 1, 2, 3, 4, 0),
		rowsOf(1, 1, 1, 0, 0), rowsOf(1, 6, 0, 0, 6), rowsOf(1, 3, 3, 3, 3),
		rowsOf(-1, 1, 2, 3, 4), rowsOf(6, 1, 2, 3, 4), {State: -1}, {Held: make([]int, 1000), State: 2},
	}
	for _, n := range append([]int{-1, 7}, strays...) {
		list = append(list, rowsOf(1, n, 0, 0, 0), rowsOf(1, 0, 2, 0, n), rowsOf(1, n, n, n, n), rowsOf(n, 1, 2, 3, 4), rowsOf(n))
	}
	return list
}

func TestRowsOkOfEveryHeld(t *testing.T) {
	for _, held := range everyHeld() {
		for state := -1; state <= 6; state++ {
			want := holdsOk(held) && state >= 0 && state <= 5
			if got := impl.RowsOk(impl.Rows{Held: held, State: state}); got != want {
				t.Fatalf("RowsOk(%v, %d) = %v", held, state, got)
			}
		}
	}
}

func TestRowsOkAccepts(t *testing.T) {
	for _, r := range []impl.Rows{
		impl.RowsNew(), rowsOf(0, 0, 0, 0, 0), rowsOf(5, 1, 6, 0, 0), rowsOf(3, 0, 0, 6, 1), rowsOf(0, 6, 5, 4, 3), rowsOf(5, 1, 2, 3, 4),
	} {
		if !impl.RowsOk(r) {
			t.Errorf("RowsOk(%v) = false", r)
		}
	}
}

func TestRowsOkRefuses(t *testing.T) {
	for _, r := range wrongRows() {
		if impl.RowsOk(r) {
			t.Errorf("RowsOk(%v) = true", r)
		}
	}
}

func TestRowsNew(t *testing.T) {
	first, second := impl.RowsNew(), impl.RowsNew()
	if !slices.Equal(first.Held, []int{0, 0, 0, 0}) || first.State != 0 {
		t.Fatalf("RowsNew() = %v", first)
	}
	for i := range first.Held {
		first.Held[i] = 9
	}
	if !impl.RowsOk(second) || !impl.RowsOk(impl.RowsNew()) {
		t.Errorf("what was written into the first one stands in %v or %v", second, impl.RowsNew())
	}
}

// timesHeld says how many of the keys hold v.
func timesHeld(held []int, v int) int {
	n := 0
	for _, h := range held[:min(len(held), 4)] {
		if h == v {
			n++
		}
	}
	return n
}

// checkFound says whether KeyOf answers the key of what is held once, and -1 of what no key holds. Nought, and what several keys hold, it does not ask.
func checkFound(t *testing.T, r impl.Rows, v int) {
	t.Helper()
	want := slices.Index(r.Held, v)
	switch n := timesHeld(r.Held, v); {
	case v == 0 || n > 1:
		return
	case n == 0:
		want = -1
	}
	if got := impl.KeyOf(r, v); got != want {
		t.Fatalf("KeyOf(%v, %d) = %d, want %d", r, v, got, want)
	}
}

func TestWhatIsHeldOnceIsFound(t *testing.T) {
	for _, held := range everyHeld() {
		for v := -2; v <= 8; v++ {
			checkFound(t, impl.Rows{Held: held, State: 2}, v)
		}
	}
}

// What is held is found whatever it is, also what is not ValOk, in the rows of fewer keys and beside a State that is none.
func TestWhatIsHeldOnceIsFoundWhateverItIs(t *testing.T) {
	for _, v := range outside(1, 6) {
		for k := range 4 {
			held := []int{1, 2, 3, 4}
			held[k] = v
			for _, state := range []int{0, 5, -1, 6, math.MinInt, math.MaxInt} {
				checkFound(t, impl.Rows{Held: held, State: state}, v)
				checkFound(t, impl.Rows{Held: held[:k+1], State: state}, v)
			}
		}
	}
}

func TestKeyOfWhatNoKeyHolds(t *testing.T) {
	for _, r := range append(wrongRows(), impl.RowsNew(), rowsOf(0, 1, 2, 3, 0), rowsOf(5, 1, 2, 3, 4)) {
		for _, v := range append(outside(1, 6), 1, 2, 3, 4, 5, 6) {
			if timesHeld(r.Held, v) == 0 {
				checkFound(t, r, v)
			}
		}
		if got := impl.KeyOf(r, 0); got != -1 {
			t.Errorf("KeyOf(%v, 0) = %d, want -1: nought is no row", r, got)
		}
	}
}

func TestKeyOfEnds(t *testing.T) {
	r := rowsOf(0, 6, 0, 0, 1)
	for v, want := range []int{-1, 3, -1, -1, -1, -1, 0, -1} {
		if got := impl.KeyOf(r, v); got != want {
			t.Errorf("KeyOf(%v, %d) = %d, want %d", r, v, got, want)
		}
	}
}

// The document asks for RowsOk of WordsOf alone: of several keys that hold v the first is told where a row can hold v, else -1, and what stands behind the last key is no key's.
func TestKeyOfOtherRows(t *testing.T) {
	for _, c := range []struct {
		r       impl.Rows
		v, want int
	}{
		{rowsOf(0), 1, -1},
		{rowsOf(0, 4), 4, 0},
		{rowsOf(0, 1, 2, 3), 3, 2},
		{rowsOf(-1, 1, 2, 3, 4), 4, 3},
		{rowsOf(math.MinInt, 1, 2, 3, 4), 1, 0},
		{rowsOf(math.MaxInt, 0, 0, 0, 5), 5, 3},
		{rowsOf(0, 0, 2, 0, 2), 2, 1},
		{rowsOf(0, 3, 3, 3, 3), 3, 0},
		{rowsOf(0, 7, -1, 5, 0), 5, 2},
		{rowsOf(0, 7, -1, 5, 0), 7, 0},
		{rowsOf(0, 7, -1, 5, 0), -1, 1},
		{rowsOf(0, 7, -1, 5, 0), 8, -1},
		{rowsOf(0, 1, 7), 7, 1},
		{rowsOf(0, 0, 7, 7, 0), 7, -1},
		{rowsOf(0, 1, 2, 3, math.MaxInt), math.MaxInt, 3},
		{rowsOf(0, math.MinInt, 2, 3, 4), math.MinInt, 0},
		{rowsOf(0, 1, 2, 3, 4, 5), 4, 3},
		{rowsOf(0, 1, 2, 3, 4, 5), 5, -1},
		{rowsOf(0, 1, 2, 3, 4, 7), 7, -1},
		{rowsOf(0, 1, 2, 7, 4, 7), 7, 2},
	} {
		if got := impl.KeyOf(c.r, c.v); got != c.want {
			t.Errorf("KeyOf(%v, %d) = %d, want %d", c.r, c.v, got, c.want)
		}
	}
}

func TestHowManyOfEveryHeld(t *testing.T) {
	for _, held := range everyHeld() {
		want := [3]int{}
		for _, v := range held {
			if v >= 1 && v <= 6 {
				want[v%3]++
			}
		}
		for c, n := range want {
			if got := impl.HowMany(impl.Rows{Held: held}, c); got != n {
				t.Fatalf("HowMany(%v, %d) = %d, want %d", held, c, got, n)
			}
		}
	}
}

func TestHowManyOfWhatIsNoClass(t *testing.T) {
	for _, r := range append(wrongRows(), impl.RowsNew(), rowsOf(0, 1, 2, 3, 0), rowsOf(5, 1, 2, 3, 4)) {
		for _, c := range outside(0, 2) {
			if got := impl.HowMany(r, c); got != 0 {
				t.Fatalf("HowMany(%v, %d) = %d, want 0", r, c, got)
			}
		}
	}
}

func TestHowManyOfOtherRows(t *testing.T) {
	for _, c := range []struct {
		r    impl.Rows
		want [3]int
	}{
		{rowsOf(0), [3]int{0, 0, 0}},
		{rowsOf(0, 3), [3]int{1, 0, 0}},
		{rowsOf(math.MinInt, 1, 4, 2, 0), [3]int{0, 2, 1}},
		{rowsOf(math.MaxInt, 6, 3, 5, 2), [3]int{2, 0, 2}},
		{rowsOf(0, 1, 1, 4, 1), [3]int{0, 4, 0}},
		{rowsOf(0, 1, 2, 3, 4, 5, 6, 1), [3]int{1, 2, 1}},
		{rowsOf(0, math.MaxInt, math.MinInt, -3, 9), [3]int{0, 0, 0}},
	} {
		for class, n := range c.want {
			if got := impl.HowMany(c.r, class); got != n {
				t.Errorf("HowMany(%v, %d) = %d, want %d", c.r, class, got, n)
			}
		}
	}
}

func TestWordsOfEachState(t *testing.T) {
	for state, via := range [][]int{
		{0, 0, 0, 0, 0, 0}, {0, 0, 0, 0, 0, 0}, {0, 0, 0, 0, 0, 1}, {0, 0, 0, 2, 0, 1}, {0, 0, 0, 2, 0, 1}, {4, 0, 0, 2, 0, 1},
	} {
		want := append([]int{6, 4, 0, 1, 4, 0, 0, 2, 0, 1, 1, 2, 0, state}, via...)
		if got := impl.WordsOf(rowsOf(state, 6, 4, 0, 1)); !slices.Equal(got, want) {
			t.Errorf("with the state %d: %v, want %v", state, got, want)
		}
	}
}

func TestWordsOfNoRows(t *testing.T) {
	for state := 0; state <= 5; state++ {
		want := make([]int, 20)
		want[13] = state
		if got := impl.WordsOf(rowsOf(state, 0, 0, 0, 0)); !slices.Equal(got, want) {
			t.Errorf("with the state %d: %v, want %v", state, got, want)
		}
	}
}

// wordsTold has the words of rows that are RowsOk, told one by one by the document's words.
func wordsTold(held []int, state int) []int {
	words := append(slices.Clone(held), make([]int, 16)...)
	words[13] = state
	for v := 1; v <= 6; v++ {
		k := slices.Index(held, v)
		if k < 0 {
			continue
		}
		words[3+v] = k + 1
		words[10+v%3]++
		if k < state-1 {
			words[13+v] = k + 1
		}
	}
	return words
}

func TestWordsOfEveryHeld(t *testing.T) {
	for _, held := range everyHeld() {
		for state := -1; state <= 6; state++ {
			got := impl.WordsOf(impl.Rows{Held: held, State: state})
			if !holdsOk(held) || state < 0 || state > 5 {
				if len(got) != 0 {
					t.Fatalf("WordsOf(%v, %d) = %v", held, state, got)
				}
			} else if want := wordsTold(held, state); !slices.Equal(got, want) {
				t.Fatalf("WordsOf(%v, %d) = %v, want %v", held, state, got, want)
			}
		}
	}
}

func TestWordsOfWrongRows(t *testing.T) {
	for _, r := range wrongRows() {
		if got := impl.WordsOf(r); len(got) != 0 {
			t.Errorf("WordsOf(%v) = %v", r, got)
		}
	}
}

// askAll calls every function of the chapter with r.
func askAll(r impl.Rows) {
	impl.RowsOk(r)
	impl.WordsOf(r)
	for n := -1; n <= 7; n++ {
		impl.KeyOf(r, n)
		impl.HowMany(r, n)
	}
}

func TestRowsAreNotWrittenInto(t *testing.T) {
	for _, r := range append(wrongRows(), rowsOf(3, 6, 0, 2, 1), rowsOf(5, 0, 0, 0, 0)) {
		whole := append(slices.Clone(r.Held), 91, 92, 93, 94, 95, 96, 97, 98)
		before := slices.Clone(whole)
		askAll(impl.Rows{Held: whole[:len(r.Held)], State: r.State})
		if !slices.Equal(whole, before) {
			t.Errorf("of %v: %v was written, with the spare room behind it: %v", r, before, whole)
		}
	}
}

func TestWordsOfSharesNothing(t *testing.T) {
	held := []int{5, 0, 2, 0}
	r := impl.Rows{Held: held, State: 2}
	first := impl.WordsOf(r)
	want := slices.Clone(first)
	copy(held, []int{1, 3, 4, 6})
	if !slices.Equal(first, want) {
		t.Errorf("Held was written into: the words were %v, now %v", want, first)
	}
	second := impl.WordsOf(r)
	for i := range first[:cap(first)] {
		first[:cap(first)][i] = 9
	}
	if !slices.Equal(held, []int{1, 3, 4, 6}) || !slices.Equal(second, wordsTold(held, 2)) {
		t.Errorf("the first words were written into: Held is %v, the second words %v", held, second)
	}
}

func TestRowsAnswerTheSameAtEachCall(t *testing.T) {
	r := rowsOf(4, 6, 3, 5, 1)
	doubled := rowsOf(4, 2, 5, 2, 5)
	want := wordsTold(r.Held, r.State)
	for range 200 {
		if !slices.Equal(impl.WordsOf(r), want) || impl.KeyOf(doubled, 5) != 1 || impl.HowMany(doubled, 2) != 4 || impl.RowsOk(doubled) {
			t.Fatal("an answer hangs on the order in which what is held is gone through")
		}
	}
}
