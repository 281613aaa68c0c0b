package tests

import (
	"math"
	"math/big"
	"slices"
	"strings"
	"testing"
	"unsafe"

	"loop.example/g00468/impl"
)

// Promise 1: digits are those of one number.

func TestDigits(t *testing.T) {
	cases := []struct {
		n    int
		want string
	}{
		{0, "0"}, {1, "1"}, {9, "9"}, {10, "10"}, {70, "70"}, {99, "99"}, {100, "100"}, {101, "101"},
		{1000, "1000"}, {20304, "20304"}, {100200, "100200"}, {999999, "999999"}, {1000000, "1000000"},
		{-1, "-1"}, {-9, "-9"}, {-10, "-10"}, {-70, "-70"}, {-101, "-101"}, {-1000000, "-1000000"},
		{math.MaxInt, "9223372036854775807"}, {math.MaxInt - 7, "9223372036854775800"},
		{math.MinInt, "-9223372036854775808"}, {math.MinInt + 1, "-9223372036854775807"},
	}
	for _, c := range cases {
		if got := impl.Digits(c.n); got != c.want {
			t.Errorf("Digits(%d) = %q, want %q", c.n, got, c.want)
		}
	}
}

// digitsTell says whether s is a minus where n is below 0, then digits without a nought ahead that sum up to n.
func digitsTell(s string, n int) bool {
	rest := s
	if n < 0 {
		if !strings.HasPrefix(s, "-") {
			return false
		}
		rest = s[1:]
	}
	if rest == "" || rest[0] == '0' && (len(rest) > 1 || n < 0) {
		return false
	}
	sum := new(big.Int)
	for i := range len(rest) {
		if rest[i] < '0' || rest[i] > '9' {
			return false
		}
		sum.Mul(sum, big.NewInt(10))
		sum.Add(sum, big.NewInt(int64(rest[i]-'0')))
	}
	if n < 0 {
		sum.Neg(sum)
	}
	return sum.Cmp(big.NewInt(int64(n))) == 0
}

func checkDigits(t *testing.T, n int) {
	t.Helper()
	if s := impl.Digits(n); !digitsTell(s, n) {
		t.Errorf("Digits(%d) = %q", n, s)
	}
}

func TestDigitsTellTheirNumber(t *testing.T) {
	for n := -2100; n <= 2100; n++ {
		checkDigits(t, n)
	}
	for p, i := 1, 0; i < 19; i++ {
		for _, n := range []int{p - 1, p, p + 1, -p + 1, -p, -p - 1, 7 * p / 2, math.MaxInt / p, math.MinInt / p} {
			checkDigits(t, n)
		}
		p *= 10
	}
	for i := range 63 {
		checkDigits(t, 1<<i)
		checkDigits(t, -1<<i)
	}
}

func TestDigitsOfNoTwoAreAlike(t *testing.T) {
	seen := map[string]int{}
	for n := -3000; n <= 3000; n++ {
		s := impl.Digits(n)
		if m, ok := seen[s]; ok {
			t.Fatalf("Digits(%d) and Digits(%d) are %q", m, n, s)
		}
		seen[s] = n
	}
}

func TestNumberAccepts(t *testing.T) {
	cases := []struct {
		s    string
		want int
	}{
		{"0", 0}, {"1", 1}, {"9", 9}, {"10", 10}, {"100", 100}, {"120", 120}, {"1002", 1002}, {"90000", 90000},
		{"100000", 100000}, {"123456", 123456}, {"999998", 999998}, {"999999", 999999},
	}
	for _, c := range cases {
		if got, ok := impl.Number(c.s); got != c.want || !ok {
			t.Errorf("Number(%q) = %d, %v, want %d, true", c.s, got, ok, c.want)
		}
	}
}

func checkNoNumber(t *testing.T, s string) {
	t.Helper()
	if got, ok := impl.Number(s); got != 0 || ok {
		t.Errorf("Number(%.40q) = %d, %v, want 0, false", s, got, ok)
	}
}

func TestNumberRefuses(t *testing.T) {
	cases := []string{
		"", "1000000", "1000001", "9999999", "10000000", "1234567",
		"00", "01", "012", "000001", "0000001", "0999999", "00000000000000000001",
		"-0", "-1", "-999999", "+0", "+1", "+120", "--1", "-",
		" 1", "1 ", " ", "1 2", "1,2", ",", "1\n", "\n1", "\t1", "1\r", "\x001", "1\x00", "1\x002",
		"a1", "1a", "1a2", "12a456", "12345a", "a", "x10", "0x10", "0b1", "0o7", "1_000", "1e3", "1.0", "1.", ".1", "1/", "/1", ":1", "1:",
		"\xff", "1\xff", "\xff1", "1\xb02", "\xb1", "\u0661", "\uff11", "1\u0662", "\u00b9", "one", "NaN", "Inf", "?",
		"9223372036854775807", "9223372036854775808", "18446744073709551616", "18446744073709551617", "4294967297", "-9223372036854775808",
	}
	for _, s := range cases {
		checkNoNumber(t, s)
	}
	checkNoNumber(t, strings.Repeat("9", 1<<20))
	checkNoNumber(t, strings.Repeat("0", 1<<20))
	checkNoNumber(t, strings.Repeat("x", 1<<20))
}

func TestNumberOfDigits(t *testing.T) {
	for n := 0; n <= 999999; n++ {
		if got, ok := impl.Number(impl.Digits(n)); got != n || !ok {
			t.Fatalf("Number(Digits(%d)) = %d, %v", n, got, ok)
		}
	}
	for _, n := range []int{1000000, 1000001, 10000000, math.MaxInt, -1, -10, -999999, math.MinInt} {
		checkNoNumber(t, impl.Digits(n))
	}
	for n := -1; n >= -3000; n-- {
		checkNoNumber(t, impl.Digits(n))
	}
}

// checkNumberOf asks that just the texts of known are numbers: those of at most three digits.
func checkNumberOf(t *testing.T, known map[string]int, s string) {
	t.Helper()
	want, wantOk := known[s]
	if got, ok := impl.Number(s); got != want || ok != wantOk {
		t.Fatalf("Number(%q) = %d, %v, want %d, %v", s, got, ok, want, wantOk)
	}
}

func TestNumberOfAllShortTexts(t *testing.T) {
	known := map[string]int{}
	for n := range 1000 {
		known[impl.Digits(n)] = n
	}
	for a := range 256 {
		checkNumberOf(t, known, string([]byte{byte(a)}))
		for b := range 256 {
			checkNumberOf(t, known, string([]byte{byte(a), byte(b)}))
			for _, c := range []byte{'0', '9', '/', ':', '-', ' ', 0, 255} {
				checkNumberOf(t, known, string([]byte{byte(a), byte(b), c}))
			}
		}
	}
}

func TestNumberOfAnyByteAmongDigits(t *testing.T) {
	for at := range 6 {
		for b := range 256 {
			text := []byte("123456")
			text[at] = byte(b)
			got, ok := impl.Number(string(text))
			isDigit := b >= '0' && b <= '9' && !(at == 0 && b == '0')
			if ok != isDigit || ok && impl.Digits(got) != string(text) || !ok && got != 0 {
				t.Errorf("Number(%q) = %d, %v", text, got, ok)
			}
		}
	}
}

func TestSplit(t *testing.T) {
	cases := []struct {
		s    string
		by   byte
		want []string
	}{
		{"", ' ', []string{""}},
		{"", 0, []string{""}},
		{"abc", ' ', []string{"abc"}},
		{"a b", ' ', []string{"a", "b"}},
		{"put 1 2", ' ', []string{"put", "1", "2"}},
		{" a", ' ', []string{"", "a"}},
		{"a ", ' ', []string{"a", ""}},
		{" ", ' ', []string{"", ""}},
		{"  ", ' ', []string{"", "", ""}},
		{"a  b", ' ', []string{"a", "", "b"}},
		{" a b ", ' ', []string{"", "a", "b", ""}},
		{"a;b/c;d", '/', []string{"a;b", "c;d"}},
		{"a\nb\n", '\n', []string{"a", "b", ""}},
		{"a\tb", ' ', []string{"a\tb"}},
		{"a\x00b", 0, []string{"a", "b"}},
		{"a\xffb\xff", 255, []string{"a", "b", ""}},
		{"\x80", 128, []string{"", ""}},
		{"\u00e9", 0xe9, []string{"\u00e9"}},
		{"\u00e9", 0xc3, []string{"", "\xa9"}},
		{"x\u00e9", 0xa9, []string{"x\xc3", ""}},
		{"\ufffd", 0xff, []string{"\ufffd"}},
	}
	for _, c := range cases {
		if got := impl.Split(c.s, c.by); !slices.Equal(got, c.want) {
			t.Errorf("Split(%q, %d) = %q, want %q", c.s, c.by, got, c.want)
		}
	}
}

// checkSplit holds a split against what makes it one: put together with the byte between it is s, and no part has that byte.
func checkSplit(t *testing.T, s string, by byte) {
	t.Helper()
	between := string([]byte{by})
	got := impl.Split(s, by)
	bad := len(got) == 0 || strings.Join(got, between) != s
	for _, part := range got {
		bad = bad || strings.Contains(part, between)
	}
	if bad {
		t.Fatalf("Split(%q, %d) = %q", s, by, got)
	}
}

func checkSplitsFrom(t *testing.T, s string, by byte, room int) {
	t.Helper()
	checkSplit(t, s, by)
	if room == 0 {
		return
	}
	for _, next := range []byte{by, by + 1, by ^ 128} {
		checkSplitsFrom(t, s+string([]byte{next}), by, room-1)
	}
}

func TestSplitByAnyByte(t *testing.T) {
	for by := range 256 {
		checkSplitsFrom(t, "", byte(by), 5)
	}
	checkSplit(t, strings.Repeat("ab", 5000), 'b')
	checkSplit(t, strings.Repeat("b", 5000), 'b')
}

func TestNumsText(t *testing.T) {
	cases := []struct {
		list []int
		want string
	}{
		{nil, ""}, {[]int{}, ""}, {[]int{0}, "0"}, {[]int{7}, "7"}, {[]int{-7}, "-7"},
		{[]int{3, -1}, "3,-1"}, {[]int{0, 0, 0}, "0,0,0"}, {[]int{-1, -20, -300}, "-1,-20,-300"},
		{[]int{10, 200, 1000000}, "10,200,1000000"},
		{[]int{math.MinInt, 0, math.MaxInt}, "-9223372036854775808,0,9223372036854775807"},
	}
	for _, c := range cases {
		if got := impl.NumsText(c.list); got != c.want {
			t.Errorf("NumsText(%v) = %q, want %q", c.list, got, c.want)
		}
	}
}

func TestNumsTextIsReadBack(t *testing.T) {
	var list []int
	for n := range 300 {
		list = append(list, n*n*11)
		parts := impl.Split(impl.NumsText(list), ',')
		if len(parts) != len(list) {
			t.Fatalf("%d parts of %d numbers", len(parts), len(list))
		}
		for i, part := range parts {
			if got, ok := impl.Number(part); got != list[i] || !ok {
				t.Fatalf("part %d of %v is %q", i, list, part)
			}
		}
	}
}

// Promise 27, of this chapter's functions: what is handed in is as it was, and what is answered is new memory.

func TestNumsTextLeavesItsListAsItWas(t *testing.T) {
	room := []int{5, -6, 0, 71, 72, 73}
	before := slices.Clone(room)
	for n := range len(room) + 1 {
		impl.NumsText(room[:n])
		if !slices.Equal(room, before) {
			t.Fatalf("NumsText of the first %d turned %v into %v", n, before, room)
		}
	}
}

func TestTextsStayAsTheyWere(t *testing.T) {
	for _, text := range []string{"", "a b  c ", "120", "012", "\xff \x00"} {
		given := strings.Clone(text)
		impl.Split(given, ' ')
		impl.Number(given)
		if given != text {
			t.Errorf("%q was turned into %q", text, given)
		}
	}
}

// sharesBytes says whether the first byte of part is one of the bytes of whole, the very same one.
func sharesBytes(part string, whole string) bool {
	for i := range len(whole) {
		if part != "" && unsafe.StringData(part) == unsafe.StringData(whole[i:]) {
			return true
		}
	}
	return false
}

func TestSplitAnswersNewMemory(t *testing.T) {
	given := strings.Clone("put 1 2")
	first := impl.Split(given, ' ')
	for i := range first[:cap(first)] {
		first[:cap(first)][i] = "gone"
	}
	if second := impl.Split(given, ' '); !slices.Equal(second, []string{"put", "1", "2"}) {
		t.Errorf("a second Split answers %q", second)
	}
	for _, by := range []byte{' ', ';'} {
		for _, part := range impl.Split(given, by) {
			if sharesBytes(part, given) {
				t.Errorf("the part %q of Split by %q shares memory with its text", part, by)
			}
		}
	}
}

func TestAnswersHangOnArgumentsAlone(t *testing.T) {
	for range 3 {
		checkNoNumber(t, "7a")
		if n, ok := impl.Number("7"); n != 7 || !ok {
			t.Errorf("Number(\"7\") = %d, %v", n, ok)
		}
		if impl.Digits(-70) != "-70" || impl.NumsText([]int{1, 2}) != "1,2" || len(impl.Split("a,b", ',')) != 2 {
			t.Error("a later call answers something else")
		}
	}
}
