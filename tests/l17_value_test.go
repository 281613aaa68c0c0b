package tests

import (
	"encoding/hex"
	"fmt"
	"math"
	"slices"
	"strings"
	"testing"
	"unsafe"

	"loop.example/g00468/impl"
)

// Promise 17: of two values that are not alike one is less.

const least, most = math.MinInt, math.MaxInt

// The greatest int and how many bytes a text has at most, written anew.
const intLimit, textLimit = 1000000000000, 20

func valueOf(kind int, n int, s string) impl.Value {
	return impl.Value{Kind: kind, N: n, S: s}
}

func flagOf(n int) impl.Value { return valueOf(1, n, "") }

func intOf(n int) impl.Value { return valueOf(2, n, "") }

func textOf(s string) impl.Value { return valueOf(3, 0, s) }

// longText has so many bytes, no two beside each other alike: a nought, one that is no text in UTF-8 and a byte 10 are among them.
func longText(many int) string {
	text := make([]byte, many)
	for i := range text {
		text[i] = "\x00\xff\n\"a"[i%5]
	}
	return string(text)
}

func TestValueConstants(t *testing.T) {
	kinds := []int{impl.VkNull, impl.VkFlag, impl.VkInt, impl.VkText}
	if !slices.Equal(kinds, []int{0, 1, 2, 3}) {
		t.Errorf("kinds %v", kinds)
	}
	limits := []int{impl.MaxInt, impl.MaxText}
	if !slices.Equal(limits, []int{intLimit, textLimit}) {
		t.Errorf("limits %v", limits)
	}
}

// valuesByHand has values, each with the text it is written as, or bad where it is not ValueOk.
func valuesByHand() map[impl.Value]string {
	return map[impl.Value]string{
		{}: "null", valueOf(0, 1, ""): "bad", valueOf(0, -1, ""): "bad", valueOf(0, least, ""): "bad", valueOf(0, most, ""): "bad", valueOf(0, 0, "a"): "bad",
		valueOf(0, 0, "\x00"): "bad", valueOf(0, 0, "null"): "bad", valueOf(0, 1, "a"): "bad", valueOf(0, 0, longText(20)): "bad", valueOf(0, 0, longText(21)): "bad",

		flagOf(0): "no", flagOf(1): "yes", flagOf(-1): "bad", flagOf(2): "bad", flagOf(256): "bad", flagOf(257): "bad", flagOf(1 << 32): "bad", flagOf(least): "bad", flagOf(most): "bad",
		valueOf(1, 0, "a"): "bad", valueOf(1, 1, "a"): "bad", valueOf(1, 1, "yes"): "bad", valueOf(1, 0, "\x00"): "bad", valueOf(1, 1, "\x00"): "bad", valueOf(1, 2, "a"): "bad",

		intOf(0): "0", intOf(1): "1", intOf(2): "2", intOf(-1): "-1", intOf(-5): "-5", intOf(10): "10", intOf(-10): "-10", intOf(70): "70", intOf(999999): "999999", intOf(1000000): "1000000",
		intOf(1 << 32): "4294967296", intOf(-(1 << 32)): "-4294967296",
		intOf(999999999999): "999999999999", intOf(1000000000000): "1000000000000", intOf(1000000000001): "bad",
		intOf(-999999999999): "-999999999999", intOf(-1000000000000): "-1000000000000", intOf(-1000000000001): "bad",
		intOf(least): "bad", intOf(least + 1): "bad", intOf(most): "bad",
		valueOf(2, 0, "a"): "bad", valueOf(2, 5, "a"): "bad", valueOf(2, -5, "\x00"): "bad", valueOf(2, 0, "0"): "bad", valueOf(2, 1000000000000, "a"): "bad",

		textOf(""): `"`, textOf("a"): `"61`, textOf("ab"): `"6162`, textOf("z"): `"7a`, textOf("\x00"): `"00`, textOf("\x00\x00"): `"0000`, textOf("a\x00"): `"6100`, textOf("\x00a"): `"0061`,
		textOf("\x01"): `"01`, textOf("\x0f"): `"0f`, textOf("\x10"): `"10`, textOf("\n"): `"0a`, textOf(`"`): `"22`, textOf(","): `"2c`, textOf(" "): `"20`, textOf("\x7f"): `"7f`, textOf("\x80"): `"80`,
		textOf("\xff"): `"ff`, textOf("\xfe\xff"): `"feff`, textOf("\x00\n\"\xff"): `"000a22ff`, textOf("null"): `"6e756c6c`, textOf("0"): `"30`, textOf("\u00e9"): `"c3a9`, textOf("\xc3"): `"c3`,
		textOf("\U0001f33e"): `"f09f8cbe`, textOf("\xed\xa0\x80"): `"eda080`, textOf("\xc0\x80"): `"c080`,
		textOf("abcdefghijklmnopqrst"): `"6162636465666768696a6b6c6d6e6f7071727374`, textOf("abcdefghijklmnopqrstu"): "bad",
		textOf(strings.Repeat("\x00", 20)): `"` + strings.Repeat("00", 20), textOf(strings.Repeat("\x00", 21)): "bad",
		textOf(strings.Repeat("\xff", 20)): `"` + strings.Repeat("ff", 20), textOf(strings.Repeat("\xff", 21)): "bad",
		textOf(strings.Repeat("\u00e9", 10)): `"` + strings.Repeat("c3a9", 10), textOf(strings.Repeat("\u00e9", 11)): "bad",
		textOf(strings.Repeat("\U0001f33e", 5)): `"` + strings.Repeat("f09f8cbe", 5), textOf(strings.Repeat("\U0001f33e", 6)): "bad", textOf(strings.Repeat("a", 1<<16+3)): "bad",
		valueOf(3, 1, ""): "bad", valueOf(3, 1, "a"): "bad", valueOf(3, -1, "a"): "bad", valueOf(3, least, "a"): "bad", valueOf(3, most, ""): "bad", valueOf(3, 1, longText(20)): "bad", valueOf(3, 1, longText(21)): "bad",

		valueOf(-1, 0, ""): "bad", valueOf(-1, 1, ""): "bad", valueOf(-1, 0, "a"): "bad", valueOf(-2, 0, ""): "bad", valueOf(-3, 0, "a"): "bad",
		valueOf(4, 0, ""): "bad", valueOf(4, 1, ""): "bad", valueOf(4, 0, "a"): "bad", valueOf(5, 0, ""): "bad",
		valueOf(256, 0, ""): "bad", valueOf(257, 1, ""): "bad", valueOf(1<<32, 0, ""): "bad", valueOf(1<<32+3, 0, "a"): "bad",
		valueOf(least, 0, ""): "bad", valueOf(least, least, longText(20)): "bad", valueOf(most, 0, ""): "bad", valueOf(most, most, "a"): "bad",
	}
}

func checkValueOk(t *testing.T, v impl.Value, want bool) {
	t.Helper()
	if got := impl.ValueOk(v); got != want {
		t.Fatalf("ValueOk(%#v) = %v, want %v", v, got, want)
	}
}

func checkValueText(t *testing.T, v impl.Value, want string) {
	t.Helper()
	if got := impl.ValueText(v); got != want {
		t.Fatalf("ValueText(%#v) = %q, want %q", v, got, want)
	}
}

func TestValuesByHand(t *testing.T) {
	for v, text := range valuesByHand() {
		checkValueOk(t, v, text != "bad")
		checkValueText(t, v, text)
		if okTold(v) != (text != "bad") || valueShown(v) != text {
			t.Errorf("%#v is told as %v, %q, and by hand it is %q", v, okTold(v), valueShown(v), text)
		}
	}
}

// okTold and valueShown answer by the document's words.
func okTold(v impl.Value) bool {
	switch v.Kind {
	case 0:
		return v.N == 0 && len(v.S) == 0
	case 1:
		return (v.N == 0 || v.N == 1) && len(v.S) == 0
	case 2:
		return v.N <= intLimit && v.N >= -intLimit && len(v.S) == 0
	case 3:
		return v.N == 0 && len(v.S) <= textLimit
	}
	return false
}

func valueShown(v impl.Value) string {
	if !okTold(v) {
		return "bad"
	}
	return []string{"null", []string{"no", "yes"}[v.N&1], fmt.Sprint(v.N), `"` + hex.EncodeToString([]byte(v.S))}[v.Kind]
}

// kindsInOrder, numsInOrder and textsInOrder each go up, byte by byte in the latter.
func kindsInOrder() []int {
	return []int{least, least + 1, -2, -1, 0, 1, 2, 3, 4, 5, 1 << 32, most - 1, most}
}

func numsInOrder() []int {
	return []int{least, least + 1, -1 << 62, -intLimit - 1, -intLimit, -1 << 32, -2, -1, 0, 1, 2, 3, 1 << 32, intLimit, intLimit + 1, 1 << 62, most - 1, most}
}

func textsInOrder() []string {
	long := strings.Repeat("m", 20)
	return []string{
		"", "\x00", "\x00\x00", "\x00\x00\x00", "\x00\x00a", "\x00\x01", "\x00a", "\x00\xff", "\x01", "\x01\x00", "\n", `"`, "0", "00", "10", "9", "A", "B",
		"a", "a\x00", "a\x00\x00", "a\x00\x00b", "a\x00\x01", "a\x00b", "a\x00\xff", "a\x01", "a\x01\x00", "aa", "ab", "ab\x00", "a\x7f", "a\x80", "a\xff", "a\xff\x00", "a\xff\xff", "b", "b\x00",
		long[:19], long[:19] + "\x00", long[:19] + "l", long, long + "\x00", long + "m", long[:19] + "n",
		"z", "\x7f", "\x7f\xff", "\x80", "\x80\x00", "\xc2", "\xc2\x80", "\u00e9", "\u00e9\x00", "\uffff", "\U0001f33e", "\xfe\xff", "\xff", "\xff\x00", "\xff\x00\x00", "\xff\x01", "\xff\xfe", "\xff\xff",
	}
}

// valuesInOrder goes up by Kind, then by N, then by S: most of what it has is not ValueOk.
func valuesInOrder() []impl.Value {
	list := []impl.Value{}
	for _, kind := range []int{least, -1, 0, 1, 2, 3, 4, most} {
		for _, n := range []int{least, -intLimit - 1, -intLimit, -2, -1, 0, 1, 2, intLimit, intLimit + 1, most} {
			for _, s := range []string{"", "\x00", "\x00\x00", "\x00a", "\x01", "a", "a\x00", "a\x01", "ab", "b", strings.Repeat("b", 20), strings.Repeat("b", 20) + "\x00", "\x80", "\xff", "\xff\x00"} {
				list = append(list, valueOf(kind, n, s))
			}
		}
	}
	return list
}

// checkOrder asks of each two of list, which goes up and has no two that are alike, which is less. That one is less just where it stands ahead holds for all of them together: less is passed on, and of any two just one is less. Texts that are alike lie at two places, so that not these are held against each other.
func checkOrder(t *testing.T, list []impl.Value) {
	t.Helper()
	for i, a := range list {
		for j, b := range list {
			b.S = strings.Clone(b.S)
			if got := impl.ValueLess(a, b); got != (i < j) {
				t.Fatalf("ValueLess(%#v, %#v) = %v", a, b, got)
			}
			if got := impl.ValueSame(a, b); got != (i == j) {
				t.Fatalf("ValueSame(%#v, %#v) = %v", a, b, got)
			}
		}
	}
}

func TestValuesInOrder(t *testing.T) {
	checkOrder(t, valuesInOrder())
}

func TestKindsInOrder(t *testing.T) {
	for _, n := range []int{least, 0, 1, most} {
		for _, s := range []string{"", "\x00", "a", longText(21)} {
			list := []impl.Value{}
			for _, kind := range kindsInOrder() {
				list = append(list, valueOf(kind, n, s))
			}
			checkOrder(t, list)
		}
	}
}

func TestNumbersInOrder(t *testing.T) {
	for _, kind := range kindsInOrder() {
		for _, s := range []string{"", "\x00", "a", longText(21)} {
			list := []impl.Value{}
			for _, n := range numsInOrder() {
				list = append(list, valueOf(kind, n, s))
			}
			checkOrder(t, list)
		}
	}
}

func TestTextsInOrder(t *testing.T) {
	for _, kind := range kindsInOrder() {
		for _, n := range []int{least, -1, 0, 1, most} {
			list := []impl.Value{}
			for _, s := range textsInOrder() {
				list = append(list, valueOf(kind, n, s))
			}
			checkOrder(t, list)
		}
	}
}

// The first thing in which they are not alike tells, whatever those behind it say.
func TestWhatCountsFirst(t *testing.T) {
	for i, small := range kindsInOrder() {
		for _, great := range kindsInOrder()[i+1:] {
			for _, n := range numsInOrder() {
				checkOrder(t, []impl.Value{valueOf(small, n, "b"), valueOf(great, 0, "a")})
				checkOrder(t, []impl.Value{valueOf(small, most, "\xff"), valueOf(great, n, "")})
			}
		}
	}
	for i, small := range numsInOrder() {
		for _, great := range numsInOrder()[i+1:] {
			for _, s := range textsInOrder() {
				checkOrder(t, []impl.Value{valueOf(2, small, "\xff"), valueOf(2, great, s)})
				checkOrder(t, []impl.Value{valueOf(3, small, s), valueOf(3, great, "")})
			}
		}
	}
}

// Bytes are told as bytes, not as runes: no two of all that are one byte, or an a and one byte, are alike.
func TestBytesInOrder(t *testing.T) {
	list := []impl.Value{textOf("")}
	for b := range 256 {
		list = append(list, textOf(string([]byte{byte(b)})))
		if b == 'a' {
			for behind := range 256 {
				list = append(list, textOf(string([]byte{'a', byte(behind)})))
			}
		}
	}
	checkOrder(t, list)
}

// Of a text what it begins with is less, however many noughts stand behind.
func TestNoughtsBehindTexts(t *testing.T) {
	for _, s := range []string{"", "a", "\x00a", "\xff", "\u00e9"} {
		list := []impl.Value{}
		for many := range 25 {
			list = append(list, textOf(s+strings.Repeat("\x00", many)))
		}
		checkOrder(t, list)
		for many, v := range list {
			checkValueOk(t, v, len(s)+many <= textLimit)
			checkValueText(t, v, valueShown(v))
		}
	}
}

func TestLongTextsInOrder(t *testing.T) {
	for _, many := range []int{0, 18, 19, 20, 21, 1 << 16} {
		s := longText(many)
		checkOrder(t, []impl.Value{textOf(s), textOf(s + "\x00"), textOf(s + "\x00\x00"), textOf(s + "\x01"), textOf(s + "a"), textOf(s + "a\x00"), textOf(s + "\x80"), textOf(s + "\xff")})
	}
}

// anyValue is one of few kinds, numbers and bytes, so that many are alike.
func anyValue(d *dice) impl.Value {
	text := make([]byte, d.roll(4))
	for i := range text {
		text[i] = "\x00\x01a\xff"[d.roll(4)]
	}
	return valueOf(d.roll(6)-1, d.roll(5)-2, string(text))
}

// Of any two that are not alike just one is less, of two that are alike none is, and less is passed on.
func TestOfAnyTwoOneIsLess(t *testing.T) {
	d, alike := dice(17), 0
	for range 200000 {
		a, b, c := anyValue(&d), anyValue(&d), anyValue(&d)
		if d.roll(8) == 0 {
			b = valueOf(a.Kind, a.N, strings.Clone(a.S))
		}
		same, up, down := impl.ValueSame(a, b), impl.ValueLess(a, b), impl.ValueLess(b, a)
		if same != (a.Kind == b.Kind && a.N == b.N && slices.Equal([]byte(a.S), []byte(b.S))) || same != impl.ValueSame(b, a) {
			t.Fatalf("ValueSame(%#v, %#v) = %v", a, b, same)
		}
		if same && (up || down) || !same && up == down {
			t.Fatalf("of %#v and %#v, alike %v: %v and %v", a, b, same, up, down)
		}
		if up && impl.ValueLess(b, c) && !impl.ValueLess(a, c) {
			t.Fatalf("%#v, %#v, %#v: less is not passed on", a, b, c)
		}
		if same {
			alike++
		}
	}
	if alike < 1000 {
		t.Errorf("%d alike", alike)
	}
}

// Whatever the order in which they come, they are put into the one order.
func TestValuesArePutInOrder(t *testing.T) {
	want := valuesInOrder()
	for seed := range 5 {
		d, list := dice(seed), slices.Clone(want)
		for i := range list {
			j := i + d.roll(len(list)-i)
			list[i], list[j] = list[j], list[i]
		}
		slices.SortFunc(list, func(a impl.Value, b impl.Value) int {
			if impl.ValueLess(a, b) {
				return -1
			}
			if impl.ValueSame(a, b) {
				return 0
			}
			return 1
		})
		if !slices.Equal(list, want) {
			t.Fatalf("put in order: %v", list)
		}
	}
}

// One of Kind, N, S alone is another one.
func TestSameInAllButOne(t *testing.T) {
	for _, a := range valuesInOrder() {
		others := []impl.Value{
			valueOf(a.Kind+1, a.N, a.S), valueOf(a.Kind-1, a.N, a.S), valueOf(^a.Kind, a.N, a.S),
			valueOf(a.Kind, a.N+1, a.S), valueOf(a.Kind, a.N-1, a.S), valueOf(a.Kind, ^a.N, a.S), valueOf(a.Kind, a.N^1<<40, a.S),
			valueOf(a.Kind, a.N, a.S+"\x00"), valueOf(a.Kind, a.N, a.S+"a"), valueOf(a.Kind, a.N, "\x00"+a.S+"\x02"),
		}
		for _, b := range others {
			if impl.ValueSame(a, b) || impl.ValueSame(b, a) || impl.ValueLess(a, b) == impl.ValueLess(b, a) {
				t.Fatalf("%#v and %#v: same %v, less %v and %v", a, b, impl.ValueSame(a, b), impl.ValueLess(a, b), impl.ValueLess(b, a))
			}
		}
		b := valueOf(a.Kind, a.N, strings.Clone(a.S))
		if !impl.ValueSame(a, a) || !impl.ValueSame(a, b) || impl.ValueLess(a, a) || impl.ValueLess(a, b) || impl.ValueLess(b, a) {
			t.Fatalf("%#v is not what it is", a)
		}
	}
}

func TestValueOkOfAllEdges(t *testing.T) {
	fine := 0
	texts := append(textsInOrder(), longText(19), longText(20), longText(21), longText(22))
	for _, kind := range kindsInOrder() {
		for _, n := range numsInOrder() {
			for _, s := range texts {
				v := valueOf(kind, n, s)
				checkValueOk(t, v, okTold(v))
				checkValueText(t, v, valueShown(v))
				if okTold(v) {
					fine++
				}
			}
		}
	}
	// Nothing, both flags, the numbers from the least int to the greatest, and all texts but those that are too long.
	if want := 1 + 2 + 10 + len(texts) - 4; fine != want {
		t.Errorf("%d are ValueOk, not %d", fine, want)
	}
}

func TestIntsNearTheirLimits(t *testing.T) {
	for off := -300; off <= 300; off++ {
		for _, n := range []int{off, intLimit + off, -intLimit + off, 1<<40 + off, -1<<40 + off, 1<<32 + off} {
			checkValueOk(t, intOf(n), n >= -intLimit && n <= intLimit)
			checkValueText(t, intOf(n), valueShown(intOf(n)))
		}
	}
	for bit := range 64 {
		for _, n := range []int{1 << bit, -1 << bit, 1<<bit - 1} {
			checkValueOk(t, intOf(n), okTold(intOf(n)))
			checkValueText(t, intOf(n), valueShown(intOf(n)))
			checkValueOk(t, flagOf(n), n == 0 || n == 1)
			checkValueOk(t, valueOf(3, n, "a"), n == 0)
		}
	}
}

// Each byte, at each place of a text of each length: two signs, and no other byte's.
func TestValueTextOfEachByte(t *testing.T) {
	for b := range 256 {
		checkValueText(t, textOf(string([]byte{byte(b)})), fmt.Sprintf("\"%02x", b))
		for at := range textLimit {
			text := []byte(longText(textLimit))
			text[at] = byte(b)
			checkValueText(t, textOf(string(text)), fmt.Sprintf("\"%x", text))
			checkValueText(t, textOf(string(text[:at+1])), fmt.Sprintf("\"%x", text[:at+1]))
		}
	}
	for many := range 3 * textLimit {
		checkValueText(t, textOf(longText(many)), valueShown(textOf(longText(many))))
		checkValueOk(t, textOf(longText(many)), many <= 20)
	}
}

// No two that are ValueOk are written alike, and none is written as bad, or with a byte that parts what is written.
func TestValueTextTellsValuesApart(t *testing.T) {
	seen := map[string]impl.Value{}
	tell := func(v impl.Value) {
		text := impl.ValueText(v)
		if other, is := seen[text]; is && other != v || text == "bad" || text == "" || strings.ContainsAny(text, ",\n ;/") {
			t.Fatalf("%#v and %#v are both %q", v, other, text)
		}
		seen[text] = v
	}
	for _, v := range valuesInOrder() {
		if okTold(v) {
			tell(v)
		}
	}
	for n := -2000; n <= 2000; n++ {
		tell(intOf(n))
	}
	for a := range 256 {
		for b := range 256 {
			tell(textOf(string([]byte{byte(a), byte(b)})))
		}
	}
	for _, s := range []string{"", "null", "no", "yes", "bad", "0", "-1", `"61`} {
		tell(textOf(s))
	}
}

// Promise 27, of this chapter's functions: what is handed in is as it was, what is answered is new memory, and nothing is kept.

// heldIn is a text that lies in room, so that it would be seen if it were written into, or kept.
func heldIn(room []byte, long int) string {
	return unsafe.String(unsafe.SliceData(room), long)
}

func TestValuesAreNotWrittenInto(t *testing.T) {
	for _, s := range append(textsInOrder(), longText(20), longText(21)) {
		for _, kind := range []int{-1, 0, 1, 2, 3, 4} {
			room := []byte(s + "what stands behind")
			before := slices.Clone(room)
			v := valueOf(kind, 0, heldIn(room, len(s)))
			want := valueShown(v)
			text := impl.ValueText(v)
			impl.ValueOk(v)
			impl.ValueLess(v, textOf(s))
			impl.ValueLess(textOf(s), v)
			impl.ValueSame(v, valueOf(kind, 0, s))
			if !slices.Equal(room, before) {
				t.Fatalf("%q became %q", before, room)
			}
			for i := range room {
				room[i] ^= 255
			}
			if text != want {
				t.Fatalf("what was answered of %q became %q", s, text)
			}
			if v.S != "" && impl.ValueSame(v, valueOf(kind, 0, s)) {
				t.Fatalf("%q is still taken for what it was, %q", v.S, s)
			}
			checkValueText(t, v, valueShown(v))
		}
	}
}

// valueCalls has of each function of the chapter what it answers, as one text; valueCallsTold has the same by hand. Neither needs another call of the program.
func valueCalls() map[string]func() string {
	each := func(tell func(a impl.Value, b impl.Value) bool) string {
		told, list := "", fewInOrder()
		for _, a := range list {
			for _, b := range list {
				told += fmt.Sprint(tell(a, b), "|")
			}
		}
		return told
	}
	return map[string]func() string{
		"ValueOk": func() string {
			told := []string{}
			for v := range valuesByHand() {
				told = append(told, fmt.Sprintf("%#v %v", v, impl.ValueOk(v)))
			}
			return joined(told)
		},
		"ValueLess": func() string { return each(impl.ValueLess) },
		"ValueSame": func() string { return each(impl.ValueSame) },
		"ValueText": func() string {
			told := []string{}
			for v := range valuesByHand() {
				told = append(told, fmt.Sprintf("%#v %s", v, impl.ValueText(v)))
			}
			return joined(told)
		},
	}
}

// fewInOrder goes up: a value of each kind, and such as are none.
func fewInOrder() []impl.Value {
	return []impl.Value{
		valueOf(least, most, "a"), valueOf(-1, 0, ""), {}, valueOf(0, 0, "\x00"), valueOf(0, 1, ""), flagOf(0), flagOf(1), flagOf(2), intOf(least), intOf(-5), intOf(0), intOf(3), intOf(most),
		textOf(""), textOf("\x00"), textOf("a"), textOf("a\x00"), textOf("ab"), textOf("\xff"), valueOf(3, 1, ""), valueOf(4, 0, ""), valueOf(most, least, ""),
	}
}

func valueCallsTold() map[string]string {
	told, fine, texts := map[string]string{}, []string{}, []string{}
	for v, text := range valuesByHand() {
		fine = append(fine, fmt.Sprintf("%#v %v", v, text != "bad"))
		texts = append(texts, fmt.Sprintf("%#v %s", v, text))
	}
	told["ValueOk"], told["ValueText"] = joined(fine), joined(texts)
	for i := range fewInOrder() {
		for j := range fewInOrder() {
			told["ValueLess"] += fmt.Sprint(i < j, "|")
			told["ValueSame"] += fmt.Sprint(i == j, "|")
		}
	}
	return told
}

// Nothing is kept: the same is answered whatever was asked meanwhile.
func TestValuesAnswerTheSameAtEachCall(t *testing.T) {
	checkSameAtEachCall(t, valueCalls(), valueCallsTold())
}

func TestValuesAheadOfAnyOtherCall(t *testing.T) {
	checkEachCalledFirst(t, valueCalls(), valueCallsTold())
}
