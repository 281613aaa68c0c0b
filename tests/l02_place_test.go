package tests

import (
	"math"
	"testing"

	"loop.example/g00468/impl"
)

// Promise 2: no two words are one.

// strays are numbers far off: what wraps round, or is cut to fewer bits, may take one of them for a near one.
var strays = []int{
	math.MaxInt, math.MaxInt - 1, math.MaxInt - 3, math.MaxInt - 9, math.MaxInt - 13, math.MaxInt - 19,
	math.MinInt, math.MinInt + 1, math.MinInt + 3, math.MinInt + 6, math.MinInt + 20,
	math.MaxInt32, math.MaxInt32 + 1, math.MinInt32, 1 << 32, 1<<32 + 1, 1<<32 + 3, 1<<62 + 1, -1 << 62,
	255, 256, 257, 258, 1<<16 + 1, 1<<16 + 2, -255, -256, -65535,
	math.MaxInt / 3, math.MaxInt / 6 * 6, math.MinInt / 3,
}

// checkAnswers asks that want is answered, in order, of first and the numbers behind it, and -1 of every other number.
func checkAnswers(t *testing.T, name string, of func(int) int, first int, want []int) {
	t.Helper()
	for i, n := range want {
		if got := of(first + i); got != n {
			t.Errorf("%s(%d) = %d, want %d", name, first+i, got, n)
		}
	}
	for _, n := range outside(first, first+len(want)-1) {
		if got := of(n); got != -1 {
			t.Errorf("%s(%d) = %d, want -1", name, n, got)
		}
	}
}

// outside has the numbers near first and last that are not between them, and the strays.
func outside(first int, last int) []int {
	list := append([]int{}, strays...)
	for n := -200; n <= 200; n++ {
		if n < first || n > last {
			list = append(list, n)
		}
	}
	return list
}

func TestPlaceConstants(t *testing.T) {
	if impl.Keys != 4 || impl.Vals != 6 || impl.Classes != 3 || impl.Words != 20 {
		t.Errorf("Keys %d, Vals %d, Classes %d, Words %d", impl.Keys, impl.Vals, impl.Classes, impl.Words)
	}
}

func checkAccepts(t *testing.T, name string, ok func(int) bool, first int, last int) {
	t.Helper()
	for n := first; n <= last; n++ {
		if !ok(n) {
			t.Errorf("%s(%d) = false", name, n)
		}
	}
	for _, n := range outside(first, last) {
		if ok(n) {
			t.Errorf("%s(%d) = true", name, n)
		}
	}
}

func TestKeyOk(t *testing.T) {
	checkAccepts(t, "KeyOk", impl.KeyOk, 0, 3)
}

func TestValOk(t *testing.T) {
	checkAccepts(t, "ValOk", impl.ValOk, 1, 6)
}

func TestClassOf(t *testing.T) {
	checkAnswers(t, "ClassOf", impl.ClassOf, 1, []int{1, 2, 0, 1, 2, 0})
}

func TestRowAt(t *testing.T) {
	checkAnswers(t, "RowAt", impl.RowAt, 0, []int{0, 1, 2, 3})
}

func TestOwnerAt(t *testing.T) {
	checkAnswers(t, "OwnerAt", impl.OwnerAt, 1, []int{4, 5, 6, 7, 8, 9})
}

func TestCountAt(t *testing.T) {
	checkAnswers(t, "CountAt", impl.CountAt, 0, []int{10, 11, 12})
}

func TestStateAt(t *testing.T) {
	if got := impl.StateAt(); got != 13 {
		t.Errorf("StateAt() = %d, want 13", got)
	}
}

func TestViaAt(t *testing.T) {
	checkAnswers(t, "ViaAt", impl.ViaAt, 1, []int{14, 15, 16, 17, 18, 19})
}

// placesFound has the places of all that the functions answer one for, over every number that is near or a stray.
func placesFound() []int {
	found := []int{impl.StateAt()}
	for _, at := range []func(int) int{impl.RowAt, impl.OwnerAt, impl.CountAt, impl.ViaAt} {
		for _, n := range outside(1, 0) {
			if place := at(n); place != -1 {
				found = append(found, place)
			}
		}
	}
	return found
}

func TestNoTwoWordsAreOne(t *testing.T) {
	found := placesFound()
	if len(found) != impl.Words {
		t.Errorf("%d places, want %d: %v", len(found), impl.Words, found)
	}
	taken := map[int]int{}
	for _, place := range found {
		taken[place]++
		if place < 0 || place >= impl.Words || taken[place] > 1 {
			t.Errorf("the place %d is told %d times", place, taken[place])
		}
	}
}

func TestEachKeyValueAndClassHasItsWord(t *testing.T) {
	for n := -20; n <= 20; n++ {
		if impl.KeyOk(n) != (impl.RowAt(n) != -1) {
			t.Errorf("KeyOk(%d) is %v, RowAt is %d", n, impl.KeyOk(n), impl.RowAt(n))
		}
		if impl.ValOk(n) != (impl.OwnerAt(n) != -1) || impl.ValOk(n) != (impl.ViaAt(n) != -1) {
			t.Errorf("ValOk(%d) is %v, OwnerAt is %d, ViaAt is %d", n, impl.ValOk(n), impl.OwnerAt(n), impl.ViaAt(n))
		}
		if impl.ValOk(n) != (impl.CountAt(impl.ClassOf(n)) != -1) {
			t.Errorf("ValOk(%d) is %v, its class %d is counted at %d", n, impl.ValOk(n), impl.ClassOf(n), impl.CountAt(impl.ClassOf(n)))
		}
	}
}

func TestPlacesAreTheSameAtEachCall(t *testing.T) {
	first := placesFound()
	for range 3 {
		for i, place := range placesFound() {
			if i >= len(first) || place != first[i] {
				t.Fatalf("place %d of the same is %d, first there were %v", i, place, first)
			}
		}
	}
}
