package tests

import (
	"bytes"
	"encoding/binary"
	"fmt"
	"math"
	"slices"
	"strings"
	"testing"

	"loop.example/g00468/impl"
)

// Promise 18: what is less has less bytes.

// How many values a tuple has at most, written anew.
const tupleLimit = 4

func tupleOf(list ...impl.Value) []impl.Value { return list }

func TestTupleConstants(t *testing.T) {
	if impl.MaxTuple != tupleLimit {
		t.Errorf("MaxTuple is %d", impl.MaxTuple)
	}
}

// A tupleByHand is a tuple, its bytes and its text.
type tupleByHand struct {
	list  []impl.Value
	bytes string
	text  string
}

const (
	intZero  = "\x40\x00\x00\x00\x00\x00\x00\x00"
	intOne   = "\x40\x00\x00\x00\x00\x00\x00\x01"
	intMinus = "\x3f\xff\xff\xff\xff\xff\xff\xff"
	intLeast = "\x3f\xff\xff\x17\x2b\x5a\xf0\x00"
	intMost  = "\x40\x00\x00\xe8\xd4\xa5\x10\x00"
)

func tuplesByHand() []tupleByHand {
	null, no, yes := valueOf(0, 0, ""), flagOf(0), flagOf(1)
	noughts := strings.Repeat("\x00", 20)
	manyNoughts := "\x04" + strings.Repeat("\x00\xff", 20) + "\x00\x01"
	return []tupleByHand{
		{nil, "", ""}, {tupleOf(), "", ""}, {make([]impl.Value, 0, 3), "", ""},
		{tupleOf(null), "\x01", "null"}, {tupleOf(no), "\x02\x00", "no"}, {tupleOf(yes), "\x02\x01", "yes"},
		{tupleOf(intOf(-1000000000000)), "\x03" + intLeast, "-1000000000000"}, {tupleOf(intOf(1000000000000)), "\x03" + intMost, "1000000000000"},
		{tupleOf(intOf(-999999999999)), "\x03\x3f\xff\xff\x17\x2b\x5a\xf0\x01", "-999999999999"}, {tupleOf(intOf(999999999999)), "\x03\x40\x00\x00\xe8\xd4\xa5\x0f\xff", "999999999999"},
		{tupleOf(intOf(0)), "\x03" + intZero, "0"}, {tupleOf(intOf(1)), "\x03" + intOne, "1"}, {tupleOf(intOf(-1)), "\x03" + intMinus, "-1"},
		{tupleOf(intOf(-5)), "\x03\x3f\xff\xff\xff\xff\xff\xff\xfb", "-5"}, {tupleOf(intOf(255)), "\x03\x40\x00\x00\x00\x00\x00\x00\xff", "255"}, {tupleOf(intOf(256)), "\x03\x40\x00\x00\x00\x00\x00\x01\x00", "256"},
		{tupleOf(intOf(-255)), "\x03\x3f\xff\xff\xff\xff\xff\xff\x01", "-255"}, {tupleOf(intOf(-256)), "\x03\x3f\xff\xff\xff\xff\xff\xff\x00", "-256"}, {tupleOf(intOf(-257)), "\x03\x3f\xff\xff\xff\xff\xff\xfe\xff", "-257"},
		{tupleOf(intOf(0x0102030405)), "\x03\x40\x00\x00\x01\x02\x03\x04\x05", "4328719365"}, {tupleOf(intOf(1 << 32)), "\x03\x40\x00\x00\x01\x00\x00\x00\x00", "4294967296"}, {tupleOf(intOf(-1 << 32)), "\x03\x3f\xff\xff\xff\x00\x00\x00\x00", "-4294967296"},

		{tupleOf(textOf("")), "\x04\x00\x01", `"`}, {tupleOf(textOf("a")), "\x04a\x00\x01", `"61`}, {tupleOf(textOf("ab")), "\x04ab\x00\x01", `"6162`},
		{tupleOf(textOf("\x00")), "\x04\x00\xff\x00\x01", `"00`}, {tupleOf(textOf("\x00\x00")), "\x04\x00\xff\x00\xff\x00\x01", `"0000`}, {tupleOf(textOf("\x01")), "\x04\x01\x00\x01", `"01`}, {tupleOf(textOf("\xff")), "\x04\xff\x00\x01", `"ff`},
		{tupleOf(textOf("\x00ab")), "\x04\x00\xffab\x00\x01", `"006162`}, {tupleOf(textOf("a\x00b")), "\x04a\x00\xffb\x00\x01", `"610062`}, {tupleOf(textOf("ab\x00")), "\x04ab\x00\xff\x00\x01", `"616200`},
		{tupleOf(textOf("\x01ab")), "\x04\x01ab\x00\x01", `"016162`}, {tupleOf(textOf("a\x01b")), "\x04a\x01b\x00\x01", `"610162`}, {tupleOf(textOf("ab\x01")), "\x04ab\x01\x00\x01", `"616201`},
		{tupleOf(textOf("\xffab")), "\x04\xffab\x00\x01", `"ff6162`}, {tupleOf(textOf("a\xffb")), "\x04a\xffb\x00\x01", `"61ff62`}, {tupleOf(textOf("ab\xff")), "\x04ab\xff\x00\x01", `"6162ff`},
		{tupleOf(textOf("\x00\x01")), "\x04\x00\xff\x01\x00\x01", `"0001`}, {tupleOf(textOf("\x01\x00")), "\x04\x01\x00\xff\x00\x01", `"0100`}, {tupleOf(textOf("\x00\xff")), "\x04\x00\xff\xff\x00\x01", `"00ff`}, {tupleOf(textOf("\xff\x00")), "\x04\xff\x00\xff\x00\x01", `"ff00`},
		{tupleOf(textOf("\x00\x01\x04a\x00\x01")), "\x04\x00\xff\x01\x04a\x00\xff\x01\x00\x01", `"000104610001`},
		{tupleOf(textOf("abcdefghijklmnopqrst")), "\x04abcdefghijklmnopqrst\x00\x01", `"6162636465666768696a6b6c6d6e6f7071727374`},
		{tupleOf(textOf(noughts)), manyNoughts, `"` + strings.Repeat("00", 20)}, {tupleOf(textOf(strings.Repeat("\xff", 20))), "\x04" + strings.Repeat("\xff", 20) + "\x00\x01", `"` + strings.Repeat("ff", 20)},
		{tupleOf(textOf("\u00e9,")), "\x04\xc3\xa9,\x00\x01", `"c3a92c`},

		{tupleOf(null, null), "\x01\x01", "null,null"}, {tupleOf(no, yes), "\x02\x00\x02\x01", "no,yes"}, {tupleOf(intOf(1), intOf(0)), "\x03" + intOne + "\x03" + intZero, "1,0"},
		{tupleOf(textOf("a"), textOf("")), "\x04a\x00\x01\x04\x00\x01", `"61,"`}, {tupleOf(textOf(""), textOf("a")), "\x04\x00\x01\x04a\x00\x01", `","61`}, {tupleOf(textOf("\x00"), textOf("\x00")), "\x04\x00\xff\x00\x01\x04\x00\xff\x00\x01", `"00,"00`},
		{tupleOf(textOf("a"), null), "\x04a\x00\x01\x01", `"61,null`}, {tupleOf(null, textOf("a")), "\x01\x04a\x00\x01", `null,"61`}, {tupleOf(textOf("a"), null, no), "\x04a\x00\x01\x01\x02\x00", `"61,null,no`},
		{tupleOf(null, yes, intOf(1), textOf("a\x00")), "\x01\x02\x01\x03" + intOne + "\x04a\x00\xff\x00\x01", `null,yes,1,"6100`},
		{tupleOf(textOf("\x00a"), intOf(-1), no, null), "\x04\x00\xffa\x00\x01\x03" + intMinus + "\x02\x00\x01", `"0061,-1,no,null`},
		{tupleOf(null, null, null, null), "\x01\x01\x01\x01", "null,null,null,null"}, {tupleOf(yes, yes, yes, yes), "\x02\x01\x02\x01\x02\x01\x02\x01", "yes,yes,yes,yes"},
		{tupleOf(intOf(-1000000000000), intOf(1000000000000), intOf(0), intOf(-1)), "\x03" + intLeast + "\x03" + intMost + "\x03" + intZero + "\x03" + intMinus, "-1000000000000,1000000000000,0,-1"},
		{tupleOf(textOf(""), textOf(""), textOf(""), textOf("")), strings.Repeat("\x04\x00\x01", 4), `",",","`},
		{tupleOf(textOf(noughts), textOf(noughts), textOf(noughts), textOf(noughts)), strings.Repeat(manyNoughts, 4), strings.Repeat(`,"`+strings.Repeat("00", 20), 4)[1:]},
	}
}

// tupleOkTold, bytesTold, readTold and tupleShown answer by the document's words.
func tupleOkTold(list []impl.Value) bool {
	for _, v := range list {
		if !okTold(v) {
			return false
		}
	}
	return len(list) <= tupleLimit
}

func bytesTold(list []impl.Value) string {
	if !tupleOkTold(list) {
		return ""
	}
	told := ""
	for _, v := range list {
		told += string([]byte{byte(v.Kind + 1)})
		switch v.Kind {
		case 1:
			told += []string{"\x00", "\x01"}[v.N]
		case 2:
			told += string(binary.BigEndian.AppendUint64(nil, 1<<62+uint64(v.N)))
		case 3:
			told += strings.ReplaceAll(v.S, "\x00", "\x00\xff") + "\x00\x01"
		}
	}
	return told
}

// readTold cuts each value off where it ends if it is one at all, and holds what it finds against the bytes that it would have: so it can be free in how it finds it.
func readTold(b string) ([]impl.Value, bool) {
	list, rest := []impl.Value{}, b
	for rest != "" && len(list) <= tupleLimit {
		kind, end := int(rest[0])-1, 1
		v := valueOf(kind, 0, "")
		switch kind {
		case 1:
			end = 2
			v.N = int((rest + "\x00")[1])
		case 2:
			end = 9
			v.N = int(binary.BigEndian.Uint64([]byte(rest + "\x00\x00\x00\x00\x00\x00\x00\x00")[1:])) - 1<<62
		case 3:
			text, _, _ := strings.Cut(rest[1:], "\x00\x01")
			end = 1 + len(text) + 2
			v.S = strings.ReplaceAll(text, "\x00\xff", "\x00")
		}
		list, rest = append(list, v), rest[min(end, len(rest)):]
	}
	if !tupleOkTold(list) || bytesTold(list) != b {
		return nil, false
	}
	return list, true
}

func tupleShown(list []impl.Value) string {
	texts := []string{}
	for _, v := range list {
		texts = append(texts, valueShown(v))
	}
	return strings.Join(texts, ",")
}

func checkTupleOk(t *testing.T, list []impl.Value, want bool) {
	t.Helper()
	if got := impl.TupleOk(list); got != want {
		t.Fatalf("TupleOk(%#v) = %v", list, got)
	}
}

func checkTupleBytes(t *testing.T, list []impl.Value, want string) {
	t.Helper()
	if got := impl.TupleBytes(list); string(got) != want {
		t.Fatalf("TupleBytes(%#v) = %q, want %q", list, got, want)
	}
}

func checkTupleText(t *testing.T, list []impl.Value, want string) {
	t.Helper()
	if got := impl.TupleText(list); got != want {
		t.Fatalf("TupleText(%#v) = %q, want %q", list, got, want)
	}
}

func checkRead(t *testing.T, b string, want []impl.Value, is bool) {
	t.Helper()
	if got, ok := impl.TupleOf([]byte(b)); !slices.Equal(got, want) || ok != is {
		t.Fatalf("TupleOf(%.200q) = %#v, %v, want %#v, %v", b, got, ok, want, is)
	}
}

func checkNoTuple(t *testing.T, b string) {
	t.Helper()
	checkRead(t, b, nil, false)
}

// checkReadAsTold says whether b is read.
func checkReadAsTold(t *testing.T, b string) bool {
	t.Helper()
	want, is := readTold(b)
	checkRead(t, b, want, is)
	return is
}

// checkTuple asks all that is asked of one list alone.
func checkTuple(t *testing.T, list []impl.Value) {
	t.Helper()
	checkTupleOk(t, list, tupleOkTold(list))
	checkTupleBytes(t, list, bytesTold(list))
	checkTupleText(t, list, tupleShown(list))
	if tupleOkTold(list) {
		checkRead(t, bytesTold(list), list, true)
	}
}

func TestTuplesByHand(t *testing.T) {
	for _, c := range tuplesByHand() {
		checkTupleOk(t, c.list, true)
		checkTupleBytes(t, c.list, c.bytes)
		checkRead(t, c.bytes, c.list, true)
		checkTupleText(t, c.list, c.text)
		if read, is := readTold(c.bytes); bytesTold(c.list) != c.bytes || !is || !slices.Equal(read, c.list) || tupleShown(c.list) != c.text {
			t.Errorf("%#v is told as %q, %#v, %q, and by hand it is not", c.list, bytesTold(c.list), read, tupleShown(c.list))
		}
	}
}

func TestNoBytesAreTheEmptyTuple(t *testing.T) {
	for _, b := range [][]byte{nil, {}, make([]byte, 0, 5), []byte("\x01\x01")[:0]} {
		if list, ok := impl.TupleOf(b); len(list) != 0 || !ok {
			t.Errorf("TupleOf of no bytes = %#v, %v", list, ok)
		}
	}
}

// goodValues go up, and stand at edges: some of each kind, and texts with noughts where they could end.
func goodValues() []impl.Value {
	return []impl.Value{
		{}, flagOf(0), flagOf(1), intOf(-intLimit), intOf(-256), intOf(-1), intOf(0), intOf(1), intOf(255), intOf(256), intOf(intLimit),
		textOf(""), textOf("\x00"), textOf("\x00\x00"), textOf("\x00\x01"), textOf("\x00\xff"), textOf(longText(20)), textOf("\x01"), textOf("a"), textOf("a\x00"), textOf("a\x00\x01"), textOf("a\x01"), textOf("a\xff"), textOf("\xff"), textOf("\xff\x00"),
	}
}

// badValues has all that are not ValueOk of those that are known by hand.
func badValues() []impl.Value {
	list := []impl.Value{}
	for v, text := range valuesByHand() {
		if text == "bad" {
			list = append(list, v)
		}
	}
	return list
}

func TestTupleOfEachLength(t *testing.T) {
	for _, v := range goodValues() {
		for n := range 12 {
			list := slices.Repeat(tupleOf(v), n)
			checkTupleOk(t, list, n <= 4)
			checkTuple(t, list)
			told := bytesTold(tupleOf(v))
			checkRead(t, strings.Repeat(told, n), list[:n*b2i(n <= 4)], n <= 4)
		}
	}
	for _, n := range []int{16, 17, 99, 255, 256, 257, 260, 1 << 16, 1<<16 + 4} {
		list := make([]impl.Value, n)
		checkTuple(t, list)
		checkTupleOk(t, list, false)
		checkNoTuple(t, strings.Repeat("\x01", n))
	}
}

func b2i(is bool) int {
	if is {
		return 1
	}
	return 0
}

// One value that is none, at each place of a list of each length, makes it none.
func TestTupleWithABadValue(t *testing.T) {
	good := []impl.Value{textOf("a\x00"), {}, intOf(-5), flagOf(1), intOf(7), {}}
	for _, bad := range badValues() {
		for n := 1; n <= 6; n++ {
			for at := range n {
				list := slices.Clone(good[:n])
				list[at] = bad
				checkTupleOk(t, list, false)
				checkTupleBytes(t, list, "")
				checkTupleText(t, list, tupleShown(list))
			}
			checkTupleBytes(t, slices.Repeat(tupleOf(bad), n), "")
			checkTupleText(t, slices.Repeat(tupleOf(bad), n), strings.Repeat(",bad", n)[1:])
		}
	}
}

func TestTupleTextByHand(t *testing.T) {
	bad := valueOf(4, 0, "")
	for _, c := range []tupleByHand{
		{list: tupleOf(bad), text: "bad"}, {list: tupleOf(bad, bad), text: "bad,bad"}, {list: tupleOf(textOf("a"), bad, impl.Value{}), text: `"61,bad,null`},
		{list: tupleOf(intOf(intLimit+1), flagOf(2)), text: "bad,bad"}, {list: tupleOf(flagOf(0), textOf(longText(21))), text: "no,bad"},
		{list: tupleOf(textOf(","), textOf("")), text: `"2c,"`}, {list: tupleOf(textOf(""), intOf(-1), textOf("null")), text: `",-1,"6e756c6c`},
		{list: make([]impl.Value, 5), text: "null,null,null,null,null"}, {list: tupleOf(flagOf(1), flagOf(0), intOf(2), bad, textOf(""), intOf(3)), text: `yes,no,2,bad,",3`},
	} {
		checkTupleText(t, c.list, c.text)
		checkTupleOk(t, c.list, len(c.list) <= 4 && !strings.Contains(c.text, "bad"))
	}
	checkTupleText(t, slices.Repeat(tupleOf(intOf(-7)), 5000), strings.Repeat("-7,", 4999)+"-7")
}

// tuplesFrom tells all lists of up to so many of values behind list, in order where values are: what one begins with stands ahead of it.
func tuplesFrom(values []impl.Value, list []impl.Value, room int, tell func([]impl.Value)) {
	tell(list)
	if room == 0 {
		return
	}
	for _, v := range values {
		tuplesFrom(values, append(slices.Clone(list), v), room-1, tell)
	}
}

func tuplesInOrder(values []impl.Value, most int) [][]impl.Value {
	all := [][]impl.Value{}
	tuplesFrom(values, nil, most, func(list []impl.Value) { all = append(all, list) })
	return all
}

// anew has a list whose texts lie elsewhere, so that not their places are held against each other.
func anew(list []impl.Value) []impl.Value {
	other := slices.Clone(list)
	for i := range other {
		other[i].S = strings.Clone(other[i].S)
	}
	return other
}

func checkLess(t *testing.T, a []impl.Value, b []impl.Value, want bool) {
	t.Helper()
	if got := impl.TupleLess(a, b); got != want {
		t.Fatalf("TupleLess(%#v, %#v) = %v", a, b, got)
	}
}

// aheadByBytes says whether a stands ahead of b, byte by byte; what b only begins with does.
func aheadByBytes(a []byte, b []byte) bool {
	for i := range a {
		if i == len(b) {
			return false
		}
		if a[i] != b[i] {
			return a[i] < b[i]
		}
	}
	return len(a) < len(b)
}

// checkTupleOrder asks of each two of all, which go up and are no two alike, which is less: by themselves, and by their bytes, where they are TupleOk.
func checkTupleOrder(t *testing.T, all [][]impl.Value) {
	t.Helper()
	told := make([][]byte, len(all))
	for i, list := range all {
		told[i] = impl.TupleBytes(list)
	}
	for i, a := range all {
		for j, list := range all {
			b := anew(list)
			checkLess(t, a, b, i < j)
			if !tupleOkTold(a) || !tupleOkTold(b) {
				continue
			}
			if aheadByBytes(told[i], told[j]) != (i < j) || bytes.Equal(told[i], told[j]) != (i == j) {
				t.Fatalf("%#v and %#v have %q and %q", a, b, told[i], told[j])
			}
		}
	}
}

func TestTuplesInOrder(t *testing.T) {
	checkTupleOrder(t, tuplesInOrder(goodValues(), 1))
	checkTupleOrder(t, tuplesInOrder(goodValues(), 2))
	checkTupleOrder(t, tuplesInOrder([]impl.Value{{}, flagOf(1), intOf(-1), intOf(0), textOf(""), textOf("\x00"), textOf("a")}, 3))
	checkTupleOrder(t, tuplesInOrder([]impl.Value{{}, intOf(5), textOf("\x00"), textOf("\x00\x00")}, 4))
	checkTupleOrder(t, tuplesInOrder([]impl.Value{textOf(""), textOf("\x00"), textOf("\x00\x01"), textOf("\x01")}, 4))
	checkTupleOrder(t, tuplesInOrder([]impl.Value{intOf(-intLimit), intOf(-1), intOf(0), intOf(intLimit)}, 4))
	checkTupleOrder(t, tuplesInOrder([]impl.Value{{}, flagOf(0), flagOf(1)}, 4))
}

// Which is less is asked of any lists, also of such as are not TupleOk: the order of values is by what they are, not by what they may be.
func TestListsThatAreNoTuplesInOrder(t *testing.T) {
	checkTupleOrder(t, tuplesInOrder(fewInOrder(), 2))
	checkTupleOrder(t, tuplesInOrder([]impl.Value{valueOf(least, most, "b"), valueOf(2, 5, "a"), valueOf(2, intLimit+1, ""), valueOf(3, 0, longText(21)), valueOf(4, 0, "")}, 3))
	checkTupleOrder(t, tuplesInOrder([]impl.Value{{}, flagOf(2)}, 7))
}

// Each value by itself, as a tuple: texts with noughts in them and behind them, numbers near and far.
func TestTuplesOfOneInOrder(t *testing.T) {
	all := [][]impl.Value{nil}
	for _, v := range []impl.Value{{}, flagOf(0), flagOf(1)} {
		all = append(all, tupleOf(v))
	}
	for _, n := range append(numsInOrder()[4:13:13], intLimit) {
		all = append(all, tupleOf(intOf(n)))
	}
	for _, s := range textsInOrder() {
		all = append(all, tupleOf(textOf(s)))
	}
	checkTupleOrder(t, all)

	bytesAlone := [][]impl.Value{tupleOf(textOf(""))}
	for b := range 256 {
		bytesAlone = append(bytesAlone, tupleOf(textOf(string([]byte{byte(b)}))), tupleOf(textOf(string([]byte{byte(b), 0}))), tupleOf(textOf(string([]byte{byte(b), 1}))), tupleOf(textOf(string([]byte{byte(b), 255}))))
	}
	checkTupleOrder(t, bytesAlone)
}

// Numbers go up by one at each byte of what they are written as.
func TestNumbersGoUpByBytes(t *testing.T) {
	nums := []int{}
	for bit := range 40 {
		for off := -2; off <= 2; off++ {
			nums = append(nums, 1<<bit+off, -1<<bit+off)
		}
	}
	for off := range 300 {
		nums = append(nums, off, -off, intLimit-off, -intLimit+off)
	}
	slices.Sort(nums)
	nums = slices.Compact(nums)
	all := [][]impl.Value{}
	for _, n := range nums {
		all = append(all, tupleOf(intOf(n)))
		checkTuple(t, tupleOf(intOf(n)))
		checkTuple(t, tupleOf(intOf(n), textOf("\x00"), intOf(-n)))
	}
	checkTupleOrder(t, all)
}

// One is the beginning of the other, either way round, from the empty one and nil on.
func TestWhatBeginsIsLess(t *testing.T) {
	for _, whole := range [][]impl.Value{
		{textOf(""), textOf(""), textOf(""), textOf("")}, {{}, {}, {}, {}, {}, {}}, {intOf(5), flagOf(0), textOf("\xff"), valueOf(9, 9, "z"), {}}, {valueOf(least, least, ""), valueOf(least, least, "")}, goodValues(), badValues(),
	} {
		for n := range len(whole) + 1 {
			for m := range len(whole) + 1 {
				checkLess(t, whole[:n], anew(whole[:m]), n < m)
			}
		}
		checkLess(t, nil, whole, true)
		checkLess(t, whole, nil, false)
		checkLess(t, []impl.Value{}, whole, true)
		checkLess(t, whole, []impl.Value{}, false)
	}
	for _, empty := range [][]impl.Value{nil, {}, make([]impl.Value, 0, 4)} {
		checkLess(t, empty, nil, false)
		checkLess(t, nil, empty, false)
		checkLess(t, empty, []impl.Value{}, false)
	}
}

// lessPairs has pairs, of which the first one is less: by Kind, by N, by S. In some of them what counts less says otherwise.
func lessPairs() [][2]impl.Value {
	return [][2]impl.Value{
		{{}, flagOf(0)}, {flagOf(1), intOf(-5)}, {intOf(5), textOf("")}, {valueOf(-1, 9, "z"), valueOf(0, 0, "")}, {valueOf(3, most, "z"), valueOf(4, least, "")}, {valueOf(least, 0, "a"), valueOf(most, 0, "a")},
		{flagOf(0), flagOf(1)}, {intOf(-6), intOf(-5)}, {intOf(-5), intOf(5)}, {intOf(-intLimit), intOf(intLimit)}, {valueOf(2, 1, "z"), valueOf(2, 2, "")}, {valueOf(2, least, ""), valueOf(2, most, "")}, {valueOf(3, 0, "z"), valueOf(3, 1, "a")},
		{textOf(""), textOf("\x00")}, {textOf("a"), textOf("a\x00")}, {textOf("a\x00"), textOf("a\x01")}, {textOf("ab"), textOf("b")}, {textOf("\x7f"), textOf("\x80")}, {textOf("a"), textOf("\xff")}, {textOf(longText(20)), textOf(longText(20) + "\x00")}, {valueOf(2, 5, "a"), valueOf(2, 5, "b")},
	}
}

// The first place where they are not alike tells, whatever stands behind it, and however long they are.
func TestTheFirstPlaceTells(t *testing.T) {
	ahead := []impl.Value{textOf("a"), valueOf(2, 7, "q"), {}, textOf("\x00"), flagOf(1)}
	for _, first := range lessPairs() {
		for _, later := range lessPairs() {
			for at := range len(ahead) + 1 {
				a := append(slices.Clone(ahead[:at]), first[0], later[1], later[1])
				b := append(slices.Clone(ahead[:at]), first[1], later[0], later[0])
				for an := at + 1; an <= len(a); an++ {
					for bn := at + 1; bn <= len(b); bn++ {
						checkLess(t, a[:an], anew(b[:bn]), true)
						checkLess(t, b[:bn], anew(a[:an]), false)
					}
				}
			}
		}
	}
}

func TestLongListsInOrder(t *testing.T) {
	long := make([]impl.Value, 1<<16)
	other := slices.Clone(long)
	checkLess(t, long, other, false)
	checkLess(t, long[:1<<16-1], other, true)
	checkLess(t, other, long[:1<<16-1], false)
	for _, at := range []int{0, 4, 5, 255, 256, 1<<16 - 1} {
		other[at].N = 1
		checkLess(t, long, other, true)
		checkLess(t, other, long, false)
		other[at].N = 0
	}
}

// anyTuple is one whose values are few, so that many of them are alike, or begin alike.
func anyTuple(d *dice, most int) []impl.Value {
	list := make([]impl.Value, d.roll(most+1))
	for i := range list {
		text := make([]byte, d.roll(4))
		for k := range text {
			text[k] = "\x00\x01a\xff"[d.roll(4)]
		}
		list[i] = []impl.Value{{}, flagOf(d.roll(2)), intOf(d.roll(5) - 2), intOf((d.roll(3) - 1) * 256), textOf(string(text)), textOf(string(text))}[d.roll(6)]
	}
	return list
}

// Of any two one is less just when its bytes stand ahead, and no two that are not alike have the same.
func TestWhatIsLessHasLessBytes(t *testing.T) {
	d, alike := dice(18), 0
	for range 100000 {
		a, b := anyTuple(&d, 4), anyTuple(&d, 4)
		if d.roll(3) == 0 {
			b = append(anew(a[:d.roll(len(a)+1)]), anyTuple(&d, 4)...)
			b = b[:min(len(b), 4)]
		}
		checkTuple(t, a)
		x, y := impl.TupleBytes(a), impl.TupleBytes(b)
		if aheadByBytes(x, y) != impl.TupleLess(a, b) || aheadByBytes(y, x) != impl.TupleLess(b, a) || bytes.Equal(x, y) != slices.Equal(a, b) {
			t.Fatalf("%#v and %#v: %q and %q", a, b, x, y)
		}
		if slices.Equal(a, b) {
			alike++
		} else if impl.TupleLess(a, b) == impl.TupleLess(b, a) {
			t.Fatalf("of %#v and %#v none is less, or both are", a, b)
		}
	}
	if alike < 1000 {
		t.Errorf("%d alike", alike)
	}
}

// Put in order by their bytes, they stand in order.
func TestTuplesArePutInOrderByTheirBytes(t *testing.T) {
	want := tuplesInOrder([]impl.Value{{}, flagOf(0), intOf(-300), intOf(2), textOf(""), textOf("\x00\x00"), textOf("\x00\x01"), textOf("\x01"), textOf("b")}, 3)
	d, list := dice(3), slices.Clone(want)
	for i := range list {
		j := i + d.roll(len(list)-i)
		list[i], list[j] = list[j], list[i]
	}
	slices.SortFunc(list, func(a []impl.Value, b []impl.Value) int {
		return strings.Compare(string(impl.TupleBytes(a)), string(impl.TupleBytes(b)))
	})
	for i := range list {
		if !slices.Equal(list[i], want[i]) {
			t.Fatalf("at the place %d stands %#v, not %#v", i, list[i], want[i])
		}
	}
}

// Texts of each length, with each of the bytes that tell something at each place, ahead of something and at the end.
func TestTextsInTuples(t *testing.T) {
	for many := range 24 {
		for _, fill := range "a\x00\x01\u00ff" {
			plain := bytes.Repeat([]byte{byte(fill)}, many)
			checkTuple(t, tupleOf(textOf(string(plain))))
			for at := range many {
				for _, b := range []byte{0, 1, 2, 4, 'b', 127, 128, 254, 255} {
					text := slices.Clone(plain)
					text[at] = b
					checkTuple(t, tupleOf(textOf(string(text))))
					checkTuple(t, tupleOf(textOf(string(text)), impl.Value{}, textOf(string(text[:at]))))
				}
			}
		}
	}
	for a := range 256 {
		for b := range 256 {
			checkTuple(t, tupleOf(textOf(string([]byte{byte(a), byte(b)})), textOf(string([]byte{byte(b)}))))
		}
	}
}

func TestTupleOfRefuses(t *testing.T) {
	text := "\x04abc\x00\x01"
	for _, b := range []string{
		"\x00", "\x05", "\x06", "\xff", "\x80", "\x00\x01", "\x05\x00\x01", "\xff\xff", "\x01\x00", "\x01\x05", "\x01\xff", "\x00\x00\x01", "a", "null",
		"\x02", "\x02\x02", "\x02\x03", "\x02\xff", "\x02\x80", "\x02\x01\x02", "\x02\x02\x01", "\x02\x00\x00", "\x01\x02", "\x02\x01\x00",
		"\x03", "\x03" + intOne[:1], "\x03" + intOne[:6], "\x03" + intOne[:7], "\x03" + intOne[1:], "\x03" + intOne[:7] + "\x03" + intOne, "\x03" + intOne + "\x00", "\x03" + intOne + intOne, "\x03" + intOne + "\x03",
		"\x03\x00\x00\x00\x00\x00\x00\x00\x00", "\x03\x00\x00\x00\x00\x00\x00\x00\x01", "\x03\x80\x00\x00\x00\x00\x00\x00\x00", "\x03\xc0\x00\x00\x00\x00\x00\x00\x00", "\x03\xc0\x00\x00\x00\x00\x00\x00\x01", "\x03\xff\xff\xff\xff\xff\xff\xff\xff", "\x03\x7f\xff\xff\xff\xff\xff\xff\xff", "\x03\xbf\xff\xff\xff\xff\xff\xff\xff",
		"\x03\x3f\xff\xff\x17\x2b\x5a\xef\xff", "\x03\x40\x00\x00\xe8\xd4\xa5\x10\x01", "\x03\x40\x00\x01\x00\x00\x00\x00\x00", "\x03\x3f\xff\xfe\xff\xff\xff\xff\xff", "\x03\x01\x00\x00\x00\x00\x00\x00\x40",
		"\x04", "\x04\x00", "\x04\x01", "\x04a", "\x04a\x00", "\x04a\x01", "\x04a\x00\xff", "\x04a\x00\xff\x00", "\x04a\x00\xff\x01", "\x04\x00\x00", "\x04\x00\x00\x01", "\x04a\x00\x00\x01", "\x04a\x00b\x00\x01", "\x04a\x00\x02", "\x04a\x00\xfe\x00\x01", "\x04\x00\x02\x00\x01", "\x04a\x00\x01\x00\x01", "\x04a\x00\x01b\x00\x01", "\x04\x00\x01\xff", "\x04\xff", "\x04\xff\x00", "\x04\xff\x01",
		text[:len(text)-1], text[:len(text)-2], text + "\x00", text + "\x05", text + text[1:], "a" + text, text[1:], "\x04" + text[:len(text)-2],
		"\x04abcdefghijklmnopqrstu\x00\x01", "\x04" + strings.Repeat("\x00\xff", 21) + "\x00\x01", "\x04" + strings.Repeat("a", 19) + "\x00\xffa\x00\x01", "\x04" + strings.Repeat("a", 20) + "\x00\xff\x00\x01", "\x04" + strings.Repeat("\xff", 21) + "\x00\x01", "\x04" + strings.Repeat("a", 21), "\x04" + strings.Repeat("a", 20), "\x04" + strings.Repeat("a", 20) + "\x00",
		"\x01\x01\x01\x01\x01", "\x02\x00\x02\x00\x02\x00\x02\x00\x02\x00", strings.Repeat("\x03"+intZero, 5), strings.Repeat("\x04\x00\x01", 5), "\x01\x01\x01\x01\x02\x00", "\x01\x01\x01\x01\x04a\x00\x01", "\x01\x01\x01\x01\x00", "\x01\x01\x01\x01\xff", "\x01\x01\x01\x01\x02", "\x04\x00\x01\x01\x01\x01\x01",
		"\x01\x01\x01\x00", "\x01\x01\x01\x05", "\x01\x01\x01\x02", "\x01\x01\x01\x02\x02", "\x00\x01\x01\x01", "\x01\x00\x01\x01", "\x01\x01\x00\x01",
		strings.Repeat("\x01", 1<<20), strings.Repeat("\x00", 1<<20), strings.Repeat("\xff", 1<<20), "\x04" + strings.Repeat("a", 1<<20), "\x04" + strings.Repeat("a", 1<<20) + "\x00\x01", "\x04" + strings.Repeat("\x00\xff", 1<<20) + "\x00\x01", "\x04" + strings.Repeat("\x00", 1<<20), strings.Repeat("\x04\x00\x01", 1<<18), "\x03" + strings.Repeat("\x40", 1<<20),
	} {
		checkNoTuple(t, b)
		if _, is := readTold(b); is {
			t.Errorf("%.80q is read by the document's words", b)
		}
	}
}

// A byte more, a byte less, a byte turned, at each place; and all that stands ahead of a place, or behind it.
func TestTupleOfAllBytesNear(t *testing.T) {
	read := 0
	for _, c := range tuplesByHand() {
		for at := range len(c.bytes) + 1 {
			checkReadAsTold(t, c.bytes[:at])
			checkReadAsTold(t, c.bytes[at:])
			for b := range 256 {
				one := string([]byte{byte(b)})
				read += b2i(checkReadAsTold(t, c.bytes[:at]+one+c.bytes[at:]))
				if at < len(c.bytes) {
					read += b2i(checkReadAsTold(t, c.bytes[:at]+one+c.bytes[at+1:]))
				}
			}
			for end := at; end <= min(len(c.bytes), at+12); end++ {
				checkReadAsTold(t, c.bytes[:at]+c.bytes[end:])
			}
		}
	}
	if read < 10000 {
		t.Errorf("%d are read", read)
	}
}

// checkBytesFrom asks of all that b is with so many bytes of some behind it, and says how many are read.
func checkBytesFrom(t *testing.T, b string, some string, room int) int {
	t.Helper()
	read := b2i(checkReadAsTold(t, b))
	if room == 0 {
		return read
	}
	for i := range len(some) {
		read += checkBytesFrom(t, b+some[i:i+1], some, room-1)
	}
	return read
}

func allBytes() string {
	all := make([]byte, 256)
	for b := range all {
		all[b] = byte(b)
	}
	return string(all)
}

// Of all short bytes just those are read that are a tuple's. How many these are is counted by hand.
func TestTupleOfAllShortBytes(t *testing.T) {
	// None; null; null twice, no, yes; null three times, null with a flag either way round (four), and the empty text.
	if read := checkBytesFrom(t, "", allBytes(), 2); read != 1+1+3 {
		t.Errorf("%d of two bytes at most are read", read)
	}
	if read := checkBytesFrom(t, "", "\x00\x01\x02\x03\x04\x05\xff", 3); read != 1+1+3+6 {
		t.Errorf("%d of three bytes at most are read", read)
	}
	checkBytesFrom(t, "", "\x00\x01\x02\x04a\xff", 6)
	checkBytesFrom(t, "\x04", "\x00\x01a\xff", 8)
	checkBytesFrom(t, "\x04", allBytes(), 2)
	checkBytesFrom(t, "\x04\x00", allBytes(), 2)
	checkBytesFrom(t, "\x04"+strings.Repeat("\x00\xff", 18), "\x00\x01\x04a\xff", 6)
	checkBytesFrom(t, "\x04"+strings.Repeat("a", 18), "\x00\x01b\xff", 6)
	checkBytesFrom(t, "\x03\x40\x00\x00", "\x00\x01\xe8\xff", 6)
	checkBytesFrom(t, "\x03\x40\x00\x00\xe8\xd4", "\x00\x0f\x10\xa5\xff", 4)
	checkBytesFrom(t, "\x03\x3f\xff\xff\x17\x2b", "\x00\x5a\xef\xf0\xff", 4)
	checkBytesFrom(t, "\x01\x01\x01", "\x00\x01\x02\x04\x05", 5)
}

// Behind a 0 of a text just 255 goes on, and just 1 ends.
func TestWhatStandsBehindANought(t *testing.T) {
	for b := range 256 {
		one := string([]byte{byte(b)})
		for _, s := range []string{"", "a", "ab", "\x01", "\xff"} {
			checkRead(t, "\x04"+s+"\x00"+one, tupleOf(textOf(s))[:b2i(b == 1)], b == 1)
			checkRead(t, "\x04"+s+"\x00"+one+"\x00\x01", tupleOf(textOf(s + "\x00"))[:b2i(b == 255)], b == 255)
			checkRead(t, "\x04"+s+"\x00"+one+"\x01", tupleOf(textOf(s), impl.Value{})[:2*b2i(b == 1)], b == 1)
		}
	}
}

// Each eight bytes are one int, or none: what is far beyond the limits comes round to nothing within them.
func TestIntsOfEightBytes(t *testing.T) {
	ask := func(n uint64) {
		b := string(binary.BigEndian.AppendUint64([]byte{3}, n))
		is := n >= 1<<62-intLimit && n <= 1<<62+intLimit
		checkRead(t, b, tupleOf(intOf(int(n) - 1<<62))[:b2i(is)], is)
		checkReadAsTold(t, b+"\x01")
		checkReadAsTold(t, b[:8])
		checkReadAsTold(t, b[:8]+"\x01")
	}
	for off := range uint64(300) {
		for _, n := range []uint64{0, 1 << 62, 1 << 63, 3 << 62, intLimit, 1<<62 - intLimit, 1<<62 + intLimit, 1<<63 - intLimit, 1<<63 + intLimit, 3<<62 - intLimit, 3<<62 + intLimit, math.MaxUint64 - intLimit} {
			ask(n + off)
			ask(n - off)
		}
	}
	for a := range 64 {
		for b := range 64 {
			ask(1<<a | 1<<b)
			ask(1<<62 ^ 1<<a ^ 1<<b)
			ask(1<<62 - 1<<a - 1<<b)
		}
	}
	d := dice(62)
	for range 20000 {
		ask(uint64(d.roll(1<<31))<<33 ^ uint64(d.roll(1<<31))<<8 ^ uint64(d.roll(256)))
		ask(1<<62 + uint64(d.roll(1<<31))*uint64(d.roll(1000)) - intLimit)
	}
}

// Of what TupleOf reads TupleBytes is just that, however the bytes came about.
func TestWhatIsReadIsWrittenSo(t *testing.T) {
	d, all, read := dice(81), tuplesByHand(), 0
	for range 100000 {
		b := []byte(all[d.roll(len(all))].bytes + all[d.roll(len(all))].bytes)
		for range d.roll(3) {
			if len(b) > 0 {
				b[d.roll(len(b))] = "\x00\x01\x02\x03\x04\x40\x3f\xffab"[d.roll(10)]
			}
		}
		checkReadAsTold(t, string(b))
		if list, ok := impl.TupleOf(b); ok {
			read++
			checkTupleOk(t, list, true)
			checkTupleBytes(t, list, string(b))
		}
	}
	if read < 20000 || read > 90000 {
		t.Errorf("%d of 100000 are read", read)
	}
}

// Promise 27, of this chapter's functions: what is handed in is as it was, what is answered is new memory, and nothing is kept.

// A heldTuple is a list whose values, texts and spare room lie in rooms that are looked at.
type heldTuple struct {
	list  []impl.Value
	rooms [][]byte
}

func heldTupleOf(list []impl.Value) heldTuple {
	held := heldTuple{list: roomy(list, valueOf(91, 92, "what stands behind"))}
	for i, v := range list {
		room := []byte(v.S + "what stands behind")
		held.rooms = append(held.rooms, room)
		held.list[i].S = heldIn(room, len(v.S))
	}
	return held
}

func (h heldTuple) text() string {
	return fmt.Sprintf("%d %#v %q", len(h.list), h.list[:cap(h.list)], h.rooms)
}

// fill turns all of it, so that what was made of it would be seen to turn if it were the same memory.
func (h heldTuple) fill() {
	for _, room := range h.rooms {
		for i := range room {
			room[i] ^= 255
		}
	}
	whole := h.list[:cap(h.list)]
	for i := range whole {
		whole[i] = valueOf(93, 94, "gone")
	}
}

func someTuples() [][]impl.Value {
	all := [][]impl.Value{tupleOf(goodValues()...), tupleOf(goodValues()[:5]...), tupleOf(valueOf(9, 9, "a")), tupleOf(textOf("a"), textOf(longText(21)))}
	for _, c := range tuplesByHand() {
		all = append(all, c.list)
	}
	return all
}

func TestTuplesAreNotWrittenInto(t *testing.T) {
	for _, list := range someTuples() {
		for _, other := range someTuples() {
			a, b := heldTupleOf(list), heldTupleOf(other)
			before, beforeB := a.text(), b.text()
			impl.TupleOk(a.list)
			impl.TupleLess(a.list, b.list)
			impl.TupleLess(b.list, a.list)
			told, text := impl.TupleBytes(a.list), impl.TupleText(a.list)
			if a.text() != before || b.text() != beforeB {
				t.Fatalf("%s and %s became %s and %s", before, beforeB, a.text(), b.text())
			}
			a.fill()
			if string(told) != bytesTold(list) || text != tupleShown(list) {
				t.Fatalf("what was answered of %#v became %q, %q", list, told, text)
			}
		}
	}
}

// Bytes are read, not held: neither they nor the room behind them are written into, and what was read stays.
func TestBytesAreNotWrittenInto(t *testing.T) {
	for _, c := range tuplesByHand() {
		for _, b := range []string{c.bytes, c.bytes + "\x00", c.bytes[:max(len(c.bytes)-1, 0)], "\x05" + c.bytes} {
			// The first of these would go on well where a text is cut off.
			for _, behind := range []string{"\x00\x01\x01\xff\x00\x01", "\x01\x00\xff\x00\x01\x02", "\xa5\x5a\xa5\x5a\xa5\x5a"} {
				checkBytesStay(t, b, behind)
			}
		}
	}
}

func checkBytesStay(t *testing.T, b string, behind string) {
	t.Helper()
	room := []byte(b + behind)
	list, _ := impl.TupleOf(room[:len(b)])
	if string(room) != b+behind {
		t.Fatalf("%q became %q", b+behind, room)
	}
	for i := range room {
		room[i] ^= 255
	}
	if want, _ := readTold(b); !slices.Equal(list, want) {
		t.Fatalf("what was read of %q became %#v", b, list)
	}
}

// What stands behind the bytes is not read, however much room there is.
func TestRoomBehindBytesIsNotRead(t *testing.T) {
	for _, c := range tuplesByHand() {
		for at := range len(c.bytes) {
			want, is := readTold(c.bytes[:at])
			for _, b := range [][]byte{[]byte(c.bytes)[:at], []byte(c.bytes)[:at:at]} {
				if got, ok := impl.TupleOf(b); !slices.Equal(got, want) || ok != is {
					t.Fatalf("TupleOf(%q) = %#v, %v", b, got, ok)
				}
			}
		}
	}
}

// Each answer is its own: the whole of one, with the room behind it, can be written over, and all others stay.
func TestTupleAnswersAreNewMemory(t *testing.T) {
	for _, c := range tuplesByHand() {
		list, b := anew(c.list), []byte(c.bytes)
		told, toldAgain := impl.TupleBytes(list), impl.TupleBytes(list)
		read, _ := impl.TupleOf(b)
		readAgain, _ := impl.TupleOf(b)
		for i := range told[:cap(told)] {
			told[:cap(told)][i] ^= 255
		}
		for i := range read[:cap(read)] {
			read[:cap(read)][i] = valueOf(93, 94, "gone")
		}
		if string(toldAgain) != c.bytes || !slices.Equal(readAgain, c.list) || !slices.Equal(list, c.list) || string(b) != c.bytes {
			t.Fatalf("of %#v: %q, %#v, %#v, %q", c.list, toldAgain, readAgain, list, b)
		}
		checkTupleBytes(t, list, c.bytes)
		checkRead(t, c.bytes, c.list, true)
		third, _ := impl.TupleOf(b)
		for i, v := range third {
			for k, other := range third {
				if sharesBytes(v.S, heldIn(b, len(b))) || sharesBytes(v.S, readAgain[i].S) || i != k && sharesBytes(v.S, other.S) {
					t.Fatalf("the text %d of %q lies in another one", i, b)
				}
			}
		}
	}
}

// tupleCalls has of each function of the chapter what it answers, as one text; tupleCallsTold has the same by hand. Neither needs another call of the program.
func tupleCalls() map[string]func() string {
	each := func(tell func(c tupleByHand) string) func() string {
		return func() string {
			told := []string{}
			for _, c := range tuplesByHand() {
				told = append(told, tell(c))
			}
			return strings.Join(told, "|")
		}
	}
	return map[string]func() string{
		"TupleOk": each(func(c tupleByHand) string {
			return fmt.Sprint(impl.TupleOk(c.list), impl.TupleOk(append(slices.Clone(c.list), valueOf(4, 0, ""))))
		}),
		"TupleLess": func() string {
			told, all := "", tuplesInOrder(fewInOrder(), 1)
			for _, a := range all {
				for _, b := range all {
					told += fmt.Sprint(impl.TupleLess(a, b), "|")
				}
			}
			return told
		},
		"TupleBytes": each(func(c tupleByHand) string { return string(impl.TupleBytes(c.list)) }),
		"TupleOf": each(func(c tupleByHand) string {
			list, ok := impl.TupleOf([]byte(c.bytes))
			none, is := impl.TupleOf([]byte(c.bytes + "\x00"))
			return fmt.Sprint(tupleOf(list...), ok, len(none), is)
		}),
		"TupleText": each(func(c tupleByHand) string { return impl.TupleText(c.list) }),
	}
}

func tupleCallsTold() map[string]string {
	fine, written, read, texts, less := []string{}, []string{}, []string{}, []string{}, ""
	for _, c := range tuplesByHand() {
		fine = append(fine, fmt.Sprint(true, false))
		written = append(written, c.bytes)
		read = append(read, fmt.Sprint(tupleOf(c.list...), true, 0, false))
		texts = append(texts, c.text)
	}
	for i := range len(fewInOrder()) + 1 {
		for j := range len(fewInOrder()) + 1 {
			less += fmt.Sprint(i < j, "|")
		}
	}
	return map[string]string{"TupleOk": strings.Join(fine, "|"), "TupleLess": less, "TupleBytes": strings.Join(written, "|"), "TupleOf": strings.Join(read, "|"), "TupleText": strings.Join(texts, "|")}
}

// Nothing is kept: the same is answered whatever was asked meanwhile.
func TestTuplesAnswerTheSameAtEachCall(t *testing.T) {
	checkSameAtEachCall(t, tupleCalls(), tupleCallsTold())
}

func TestTuplesAheadOfAnyOtherCall(t *testing.T) {
	checkEachCalledFirst(t, tupleCalls(), tupleCallsTold())
}
