package tests

import (
	"fmt"
	"math"
	"slices"
	"sync"
	"testing"

	"loop.example/g00468/impl"
)

// Promise 13: each way to a row ends at it.

// rowsInTold, rightTold, wholeTold, strayTold and keyTold answer by the document's words, with the places as numbers.
func rowsInTold(words []int) impl.Rows {
	if len(words) != 20 {
		return impl.Rows{}
	}
	return rowsOf(words[13], words[0], words[1], words[2], words[3])
}

func rightTold(words []int) bool {
	return len(words) == 20 && holdsOk(words[:4]) && words[13] >= 0 && words[13] <= 5
}

func wholeTold(words []int) bool {
	return rightTold(words) && slices.Equal(words, wordsTold(words[:4], words[13]))
}

func strayTold(words []int) []int {
	list := []int{}
	for at := 0; at < 20 && rightTold(words); at++ {
		if words[at] != wordsTold(words[:4], words[13])[at] {
			list = append(list, at)
		}
	}
	return list
}

// keyTold takes the place ahead of that of the value 1: 3 by OwnerAt, 13 by ViaAt.
func keyTold(words []int, ahead int, v int) (int, bool) {
	if v < 1 || v > 6 || !wholeTold(words) || ahead == 13 && words[13] != 5 || words[ahead+v] == 0 {
		return 0, false
	}
	return words[ahead+v] - 1, true
}

func checkTell(t *testing.T, words []int) {
	t.Helper()
	if got, want := impl.RowsIn(words), rowsInTold(words); got.State != want.State || !slices.Equal(got.Held, want.Held) {
		t.Fatalf("RowsIn(%v) = %v, want %v", words, got, want)
	}
	if got, want := impl.Whole(words), wholeTold(words); got != want {
		t.Fatalf("Whole(%v) = %v", words, got)
	}
	if got, want := impl.Stray(words), strayTold(words); !slices.Equal(got, want) {
		t.Fatalf("Stray(%v) = %v, want %v", words, got, want)
	}
}

func checkFinds(t *testing.T, words []int, v int) {
	t.Helper()
	key, found := impl.Find(words, v)
	if want, is := keyTold(words, 3, v); key != want || found != is {
		t.Fatalf("Find(%v, %d) = %d, %v, want %d, %v", words, v, key, found, want, is)
	}
	key, found = impl.FindVia(words, v)
	if want, is := keyTold(words, 13, v); key != want || found != is {
		t.Fatalf("FindVia(%v, %d) = %d, %v, want %d, %v", words, v, key, found, want, is)
	}
}

// checkTable asks of words all that the chapter tells, with values that are some and values that are none.
func checkTable(t *testing.T, words []int) {
	t.Helper()
	checkTell(t, words)
	for _, v := range []int{math.MinInt, -13, -3, -1, 0, 1, 2, 3, 4, 5, 6, 7, 8, 14, 20, math.MaxInt} {
		checkFinds(t, words, v)
	}
}

// checkNothing asks that words are no table's: nothing strays in them as nothing is told, and nothing is found.
func checkNothing(t *testing.T, words []int) {
	t.Helper()
	if impl.Whole(words) || len(impl.Stray(words)) != 0 {
		t.Errorf("of %v: Whole %v, Stray %v", words, impl.Whole(words), impl.Stray(words))
	}
	checkFindsNothing(t, words)
}

func checkFindsNothing(t *testing.T, words []int) {
	t.Helper()
	for v := -1; v <= 7; v++ {
		if key, found := impl.Find(words, v); key != 0 || found {
			t.Errorf("Find(%v, %d) = %d, %v", words, v, key, found)
		}
		if key, found := impl.FindVia(words, v); key != 0 || found {
			t.Errorf("FindVia(%v, %d) = %d, %v", words, v, key, found)
		}
	}
}

// tellingOf has words each of which tells its own place, so that one that is taken from another place is seen.
func tellingOf(n int) []int {
	words := make([]int, n)
	for at := range words {
		words[at] = 100 + at
	}
	return words
}

func TestRowsInTakesItsOwnWords(t *testing.T) {
	got := impl.RowsIn(tellingOf(20))
	if !slices.Equal(got.Held, []int{100, 101, 102, 103}) || got.State != 113 {
		t.Errorf("RowsIn of words that tell their places = %v", got)
	}
}

func TestRowsInOfTooFewOrTooMany(t *testing.T) {
	for n := range 70 {
		if n == 20 {
			continue
		}
		for _, words := range [][]int{tellingOf(n), make([]int, n), append(wordsTold([]int{5, 0, 2, 0}, 5), tellingOf(n)...)[:n]} {
			if got := impl.RowsIn(words); len(got.Held) != 0 || got.State != 0 {
				t.Errorf("RowsIn of %d words = %v", n, got)
			}
			checkNothing(t, words)
		}
	}
	checkNothing(t, nil)
	if got := impl.RowsIn(nil); len(got.Held) != 0 || got.State != 0 {
		t.Errorf("RowsIn(nil) = %v", got)
	}
}

// What rows are told is not asked to be right, nor the other words to fit them.
func TestRowsInOfAnyNumbers(t *testing.T) {
	for _, n := range append([]int{-1, 0, 1, 4, 5, 6, 7}, strays...) {
		for at := range 20 {
			words := wordsTold([]int{5, 0, 2, 0}, 5)
			words[at] = n
			want := rowsOf(words[13], words[:4]...)
			if got := impl.RowsIn(words); got.State != want.State || !slices.Equal(got.Held, want.Held) {
				t.Errorf("RowsIn(%v) = %v, want %v", words, got, want)
			}
			checkTable(t, words)
		}
		if got := impl.RowsIn(slices.Repeat([]int{n}, 20)); got.State != n || !slices.Equal(got.Held, []int{n, n, n, n}) {
			t.Errorf("RowsIn of %d alone = %v", n, got)
		}
	}
}

func TestRowsInOfEachState(t *testing.T) {
	for _, state := range append([]int{-1, 0, 1, 2, 3, 4, 5, 6}, strays...) {
		words := make([]int, 20)
		words[13] = state
		if got := impl.RowsIn(words); got.State != state || !slices.Equal(got.Held, []int{0, 0, 0, 0}) {
			t.Errorf("RowsIn with the state %d = %v", state, got)
		}
		if got, want := impl.Whole(words), state >= 0 && state <= 5; got != want {
			t.Errorf("Whole with the state %d, and no rows: %v", state, got)
		}
	}
}

func TestWholeByHand(t *testing.T) {
	for _, c := range []struct {
		words []int
		want  bool
	}{
		{[]int{0, 0, 0, 0, 0, 0, 0, 0, 0, 0, 0, 0, 0, 0, 0, 0, 0, 0, 0, 0}, true},
		{[]int{0, 0, 0, 0, 0, 0, 0, 0, 0, 0, 0, 0, 0, 5, 0, 0, 0, 0, 0, 0}, true},
		{[]int{5, 0, 2, 0, 0, 3, 0, 0, 1, 0, 0, 0, 2, 5, 0, 3, 0, 0, 1, 0}, true},
		{[]int{5, 0, 2, 0, 0, 3, 0, 0, 1, 0, 0, 0, 2, 4, 0, 3, 0, 0, 1, 0}, true},
		{[]int{5, 0, 2, 0, 0, 3, 0, 0, 1, 0, 0, 0, 2, 3, 0, 3, 0, 0, 1, 0}, false},
		{[]int{5, 0, 2, 0, 0, 3, 0, 0, 1, 0, 0, 0, 2, 3, 0, 0, 0, 0, 1, 0}, true},
		{[]int{5, 0, 2, 0, 0, 3, 0, 0, 1, 0, 0, 0, 2, 1, 0, 0, 0, 0, 0, 0}, true},
		{[]int{5, 0, 2, 0, 0, 3, 0, 0, 1, 0, 0, 0, 2, 0, 0, 0, 0, 0, 0, 0}, true},
		{[]int{5, 0, 2, 0, 0, 3, 0, 0, 1, 0, 0, 0, 2, 0, 0, 0, 0, 0, 1, 0}, false},
		{[]int{5, 0, 2, 0, 0, 3, 0, 0, 1, 0, 0, 0, 1, 5, 0, 3, 0, 0, 1, 0}, false},
		{[]int{5, 0, 2, 0, 0, 3, 0, 0, 0, 0, 0, 0, 2, 5, 0, 3, 0, 0, 1, 0}, false},
		{[]int{5, 0, 2, 0, 0, 3, 0, 0, 1, 4, 0, 0, 2, 5, 0, 3, 0, 0, 1, 0}, false},
		{[]int{1, 4, 3, 6, 1, 0, 3, 2, 0, 4, 2, 2, 0, 5, 1, 0, 3, 2, 0, 4}, true},
		{[]int{1, 4, 3, 6, 1, 0, 3, 2, 0, 4, 2, 2, 0, 4, 1, 0, 3, 2, 0, 0}, true},
		{[]int{1, 4, 3, 6, 2, 0, 3, 1, 0, 4, 2, 2, 0, 5, 2, 0, 3, 1, 0, 4}, false},
		{[]int{2, 2, 0, 0, 0, 1, 0, 0, 0, 0, 0, 0, 2, 5, 0, 1, 0, 0, 0, 0}, false},
		{[]int{7, 0, 0, 0, 0, 0, 0, 0, 0, 0, 0, 0, 0, 5, 0, 0, 0, 0, 0, 0}, false},
		{[]int{0, 0, 0, 0, 0, 0, 0, 0, 0, 0, 0, 0, 0, 6, 0, 0, 0, 0, 0, 0}, false},
		{[]int{0, 0, 0, 0, 0, 0, 0, 0, 0, 0, 0, 0, 0, -1, 0, 0, 0, 0, 0, 0}, false},
	} {
		if got := impl.Whole(c.words); got != c.want {
			t.Errorf("Whole(%v) = %v", c.words, got)
		}
		checkTable(t, c.words)
	}
}

// Of every table its words are whole, none strays, and RowsIn has the rows again.
func TestEveryTableIsWhole(t *testing.T) {
	for _, r := range everyRows() {
		words := impl.WordsOf(r)
		if !impl.Whole(words) || len(impl.Stray(words)) != 0 {
			t.Fatalf("of %v: %v are not whole, %v stray", r, words, impl.Stray(words))
		}
		if got := impl.RowsIn(words); got.State != r.State || !slices.Equal(got.Held, r.Held) {
			t.Fatalf("of %v: the words %v have %v", r, words, got)
		}
		checkTell(t, wordsTold(r.Held, r.State))
	}
}

// Each way to a row ends at it, and none leads where there is none. The other way is gone only when it is made to its end.
func TestEachWayEndsAtItsRow(t *testing.T) {
	for _, r := range everyRows() {
		words := impl.WordsOf(r)
		for v := 1; v <= 6; v++ {
			holder := slices.Index(r.Held, v)
			want := max(holder, 0)
			if key, found := impl.Find(words, v); key != want || found != (holder >= 0) {
				t.Fatalf("of %v: Find(%d) = %d, %v", r, v, key, found)
			}
			key, found := impl.FindVia(words, v)
			if made := r.State == 5; made && key != want || !made && key != 0 || found != (made && holder >= 0) {
				t.Fatalf("of %v: FindVia(%d) = %d, %v", r, v, key, found)
			}
		}
	}
}

func TestWhatNoRowCanHoldIsNotFound(t *testing.T) {
	// Each place ahead of a value's and behind it tells a key here, which a wrong place would find.
	full := impl.WordsOf(rowsOf(5, 1, 6, 3, 4))
	for _, words := range [][]int{full, impl.WordsOf(rowsOf(5, 5, 0, 2, 0)), impl.WordsOf(rowsOf(0, 0, 0, 0, 0)), make([]int, 20), nil} {
		for _, v := range outside(1, 6) {
			if key, found := impl.Find(words, v); key != 0 || found {
				t.Fatalf("Find(%v, %d) = %d, %v", words, v, key, found)
			}
			if key, found := impl.FindVia(words, v); key != 0 || found {
				t.Fatalf("FindVia(%v, %d) = %d, %v", words, v, key, found)
			}
		}
	}
}

// Of what is held by key 0 the key is told as nought, which is what is told beside false: true tells them apart.
func TestFindsByHand(t *testing.T) {
	for _, c := range []struct {
		r             impl.Rows
		v             int
		key           int
		found, foundV bool
	}{
		{rowsOf(5, 5, 0, 2, 0), 5, 0, true, true},
		{rowsOf(5, 5, 0, 2, 0), 2, 2, true, true},
		{rowsOf(5, 5, 0, 2, 0), 1, 0, false, false},
		{rowsOf(5, 6, 0, 0, 1), 1, 3, true, true},
		{rowsOf(5, 6, 0, 0, 1), 6, 0, true, true},
		{rowsOf(4, 6, 0, 0, 1), 6, 0, true, false},
		{rowsOf(4, 6, 0, 0, 1), 1, 3, true, false},
		{rowsOf(1, 6, 0, 0, 1), 1, 3, true, false},
		{rowsOf(0, 6, 0, 0, 1), 1, 3, true, false},
		{rowsOf(5, 0, 0, 0, 0), 1, 0, false, false},
	} {
		words := impl.WordsOf(c.r)
		if key, found := impl.Find(words, c.v); key != c.key || found != c.found {
			t.Errorf("of %v: Find(%d) = %d, %v", c.r, c.v, key, found)
		}
		want := 0
		if c.foundV {
			want = c.key
		}
		if key, found := impl.FindVia(words, c.v); key != want || found != c.foundV {
			t.Errorf("of %v: FindVia(%d) = %d, %v", c.r, c.v, key, found)
		}
	}
}

// checkBent asks that the words of r, in which just the word at a place was bent, are no longer whole. Only how far the other way is made can be bent so that all is whole again: where the key between has no row.
func checkBent(t *testing.T, r impl.Rows, words []int, at int) {
	t.Helper()
	checkTell(t, words)
	if at != 13 && impl.Whole(words) {
		t.Fatalf("bent at %d, %v are whole", at, words)
	}
	if at != 13 && at >= 4 && !slices.Equal(impl.Stray(words), []int{at}) {
		t.Fatalf("bent at %d alone, in %v there stray %v", at, words, impl.Stray(words))
	}
	// One key a place, as there are many: all keys come by turns.
	checkFinds(t, words, r.Held[at%4])
}

func TestEachWordBentByOne(t *testing.T) {
	for _, r := range everyRows() {
		for at := range 20 {
			for _, by := range []int{-1, 1} {
				words := wordsTold(r.Held, r.State)
				words[at] += by
				checkBent(t, r, words, at)
			}
		}
	}
}

func TestEachWordBentFarOff(t *testing.T) {
	for _, r := range []impl.Rows{rowsOf(5, 5, 0, 2, 0), rowsOf(0, 1, 2, 3, 4), rowsOf(3, 0, 6, 3, 1), rowsOf(5, 0, 0, 0, 0), rowsOf(5, 3, 4, 5, 6)} {
		for at := range 20 {
			for _, n := range outside(0, 6) {
				words := wordsTold(r.Held, r.State)
				words[at] = n
				checkBent(t, r, words, at)
				if at < 4 || at == 13 {
					checkNothing(t, words)
				} else {
					checkFindsNothing(t, words)
				}
			}
		}
	}
}

// The rows are asked, not the ways: of several words that are bent all are told, ascending.
func TestAllThatStrayAreTold(t *testing.T) {
	places := []int{4, 5, 6, 7, 8, 9, 10, 11, 12, 14, 15, 16, 17, 18, 19}
	for _, r := range []impl.Rows{rowsOf(5, 5, 0, 2, 0), rowsOf(2, 1, 6, 0, 4)} {
		for set := range 1 << len(places) {
			words, bent := wordsTold(r.Held, r.State), []int{}
			for i, at := range places {
				if set>>i&1 == 1 {
					words[at] += 1 - 2*(i%2)
					bent = append(bent, at)
				}
			}
			if got := impl.Stray(words); !slices.Equal(got, bent) {
				t.Fatalf("Stray(%v) = %v, want %v", words, got, bent)
			}
			if impl.Whole(words) != (set == 0) {
				t.Fatalf("Whole(%v) = %v", words, set != 0)
			}
		}
	}
}

func TestStrayWhereARowOrStateIsTurned(t *testing.T) {
	for _, c := range []struct {
		r         impl.Rows
		place, to int
		want      []int
	}{
		{rowsOf(5, 5, 0, 2, 0), 0, 3, []int{6, 8, 10, 12, 16, 18}},
		{rowsOf(1, 5, 0, 2, 0), 0, 3, []int{6, 8, 10, 12}},
		{rowsOf(5, 1, 0, 2, 0), 0, 4, []int{4, 7, 14, 17}},
		{rowsOf(5, 5, 0, 2, 0), 0, 0, []int{8, 12, 18}},
		{rowsOf(5, 5, 0, 2, 0), 3, 6, []int{9, 10, 19}},
		{rowsOf(4, 5, 0, 2, 0), 3, 6, []int{9, 10}},
		{rowsOf(0, 5, 0, 2, 0), 1, 1, []int{4, 11}},
		{rowsOf(5, 5, 0, 2, 0), 1, 5, nil},
		{rowsOf(5, 5, 0, 2, 0), 1, 7, nil},
		{rowsOf(5, 5, 0, 2, 0), 1, -1, nil},
		{rowsOf(5, 5, 0, 2, 0), 13, 4, nil},
		{rowsOf(5, 5, 0, 2, 0), 13, 3, []int{15}},
		{rowsOf(5, 5, 0, 2, 0), 13, 2, []int{15}},
		{rowsOf(5, 5, 0, 2, 0), 13, 1, []int{15, 18}},
		{rowsOf(5, 5, 0, 2, 0), 13, 0, []int{15, 18}},
		{rowsOf(5, 5, 0, 2, 0), 13, 6, nil},
		{rowsOf(0, 5, 0, 2, 0), 13, -1, nil},
		{rowsOf(0, 5, 0, 2, 0), 13, 1, nil},
		{rowsOf(0, 5, 0, 2, 0), 13, 3, []int{18}},
		{rowsOf(0, 5, 0, 2, 0), 13, 5, []int{15, 18}},
		{rowsOf(0, 1, 2, 3, 4), 13, 5, []int{14, 15, 16, 17}},
	} {
		words := wordsTold(c.r.Held, c.r.State)
		words[c.place] = c.to
		if got := impl.Stray(words); !slices.Equal(got, c.want) {
			t.Errorf("Stray(%v) = %v, want %v", words, got, c.want)
		}
		checkTable(t, words)
	}
}

// Words whose rows are none of a table: all other words are as they would be.
func TestWordsOfWhatIsNoTable(t *testing.T) {
	none := 0
	for _, held := range everyHeld() {
		for state := -1; state <= 6; state++ {
			if holdsOk(held) && state >= 0 && state <= 5 {
				continue
			}
			if none++; none%3 == 0 {
				checkTell(t, wordsTold(held, state))
				checkFinds(t, wordsTold(held, state), 1+none/3%6)
			}
		}
	}
	for _, r := range wrongRows() {
		if len(r.Held) == 4 {
			checkNothing(t, wordsTold(r.Held, r.State))
		}
	}
	for _, words := range strayWords() {
		checkTell(t, words)
		checkFinds(t, words, 1)
	}
}

// What stands in the spare room behind words is no word, and is not taken for one that is missing.
func TestSpareRoomIsNoWord(t *testing.T) {
	words := wordsTold([]int{5, 0, 2, 0}, 5)
	checkNothing(t, words[:19])
	checkNothing(t, append(slices.Clone(words), 0))
	checkNothing(t, append(slices.Clone(words), words...))
	checkNothing(t, words[:0])
	checkTable(t, withRoom(words)[:20])
}

// Whoever goes on when: at each step the words mean a whole table, and each way ends where the row is that it is to.
func TestMeaningOfAMachineIsWhole(t *testing.T) {
	d, ops, rows, steps := dice(13), everyOp(), everyRows(), 0
	for range 12 {
		list := make([][]impl.Op, 3)
		for j := range list {
			for range 4 {
				list[j] = append(list[j], ops[d.roll(len(ops))])
			}
		}
		m := newMachine(t, rows[d.roll(len(rows))], list...)
		for !impl.Finished(m) {
			words := impl.Meaning(m.Mem.Words, m.Mem.Descs)
			if !impl.Whole(words) {
				t.Fatalf("%v stray in %v", impl.Stray(words), words)
			}
			checkTable(t, words)
			m, _ = impl.Step(m, d.roll(3))
			steps++
		}
	}
	if steps < 300 {
		t.Errorf("these are but %d steps", steps)
	}
}

// someWords has words of each sort: whole, with some that stray, of no table, too few and too many.
func someWords() [][]int {
	list := [][]int{nil, make([]int, 20), make([]int, 19), make([]int, 21), tellingOf(20), tellingOf(3)}
	for _, r := range []impl.Rows{rowsOf(5, 5, 0, 2, 0), rowsOf(3, 1, 4, 3, 6), rowsOf(0, 0, 6, 0, 0), rowsOf(6, 1, 2, 3, 4), rowsOf(5, 2, 2, 0, 0), rowsOf(1, 7, 0, 0, -1)} {
		list = append(list, wordsTold(r.Held, r.State))
		for _, at := range []int{0, 4, 12, 13, 19} {
			words := wordsTold(r.Held, r.State)
			words[at]++
			words[9]--
			list = append(list, words)
		}
	}
	return list
}

func TestTablesAreNotWrittenInto(t *testing.T) {
	for _, words := range someWords() {
		given := withRoom(words)
		before := slices.Clone(given)
		checkTable(t, given[:len(words)])
		if !slices.Equal(given, before) {
			t.Errorf("%v was written: %v", before, given)
		}
	}
}

// What is answered is new memory: neither it nor what it was asked of is changed when the other one is written into, nor another answer.
func TestTablesShareNothing(t *testing.T) {
	answers := map[string]func([]int) []int{
		"RowsIn": func(words []int) []int { return impl.RowsIn(words).Held },
		"Stray":  impl.Stray,
	}
	for name, ask := range answers {
		for _, words := range someWords() {
			given := withRoom(words)
			got, other := ask(given[:len(words)]), ask(given[:len(words)])
			want := slices.Clone(got)
			for i := range given {
				given[i] = 70 + i
			}
			if !slices.Equal(got, want) {
				t.Errorf("%s(%v) became %v when the words were written into", name, words, got)
			}
			for i := range other[:cap(other)] {
				other[:cap(other)][i] = 9
			}
			if !slices.Equal(got, want) {
				t.Errorf("%s(%v) became %v when another answer was written into", name, words, got)
			}
			for i := range given {
				if given[i] != 70+i {
					t.Fatalf("%s(%v): what was written into the answer stands in %v", name, words, given)
				}
			}
		}
	}
}

// Nothing is kept: the same is answered of the same words, whatever was asked meanwhile, also where many ask at once.
func TestTablesAnswerTheSameAtEachCall(t *testing.T) {
	list := someWords()
	told := func(words []int) string {
		key, found := impl.Find(words, 5)
		via, foundVia := impl.FindVia(words, 5)
		return fmt.Sprint(impl.RowsIn(words), impl.Whole(words), impl.Stray(words), key, found, via, foundVia)
	}
	want := []string{}
	for _, words := range list {
		want = append(want, told(words))
	}
	var all sync.WaitGroup
	for range 8 {
		all.Go(func() {
			for range 20 {
				for i, words := range list {
					if got := told(words); got != want[i] {
						t.Errorf("of %v: %v, and %v before", words, got, want[i])
					}
				}
			}
		})
	}
	all.Wait()
}
