package tests

import (
	"fmt"
	"math"
	"os"
	"os/exec"
	"slices"
	"strings"
	"sync"
	"testing"

	"loop.example/g00468/impl"
)

// Promise 14: an op is read as it was.

// textTold, opTexts, progTold and resTold answer by the document's words, with names and limits written anew.
func textTold(o impl.Op) string {
	if !slices.Contains(everyOp(), o) {
		return "none"
	}
	name := strings.Fields("put set del get find count scan open make via")[o.Kind-1]
	switch name {
	case "put", "set":
		return fmt.Sprintf("%s %d %d", name, o.K, o.V)
	case "del", "get", "count":
		return fmt.Sprintf("%s %d", name, o.K)
	case "find", "via":
		return fmt.Sprintf("%s %d", name, o.V)
	}
	return name
}

// opTexts has every text that is an op's, with that op: all others are none.
func opTexts() map[string]impl.Op {
	texts := map[string]impl.Op{}
	for _, o := range everyOp() {
		texts[textTold(o)] = o
	}
	return texts
}

func progTold(texts map[string]impl.Op, s string) ([]impl.Op, bool) {
	if s == "" {
		return nil, true
	}
	list := []impl.Op{}
	for _, part := range strings.Split(s, ";") {
		o, is := texts[part]
		if !is {
			return nil, false
		}
		list = append(list, o)
	}
	if len(list) > 8 {
		return nil, false
	}
	return list, true
}

func resTold(s impl.Res) string {
	name, is := map[int]string{0: "done", 1: "there", 2: "taken", 3: "none", 4: "not"}[s.Code]
	if !is {
		name = "what"
	}
	if len(s.List) == 0 {
		return name
	}
	told := fmt.Sprint(s.List)
	return name + " " + strings.ReplaceAll(told[1:len(told)-1], " ", ",")
}

func checkOpText(t *testing.T, o impl.Op, want string) {
	t.Helper()
	if got := impl.OpText(o); got != want {
		t.Fatalf("OpText(%v) = %q, want %q", o, got, want)
	}
}

// checkOpOf asks that just the texts of texts are ops, each the one that it stands for there.
func checkOpOf(t *testing.T, texts map[string]impl.Op, s string) {
	t.Helper()
	want, is := texts[s]
	if got, ok := impl.OpOf(s); got != want || ok != is {
		t.Fatalf("OpOf(%.60q) = %v, %v, want %v, %v", s, got, ok, want, is)
	}
}

func checkProgOf(t *testing.T, texts map[string]impl.Op, s string) {
	t.Helper()
	want, is := progTold(texts, s)
	if got, ok := impl.ProgOf(s); !slices.Equal(got, want) || ok != is {
		t.Fatalf("ProgOf(%.200q) = %v, %v, want %v, %v", s, got, ok, want, is)
	}
}

// The least and the greatest numbers of each kind.
var textsByHand = []struct {
	o    impl.Op
	text string
}{
	{opOf(impl.OpPut, 0, 1), "put 0 1"}, {opOf(impl.OpPut, 3, 6), "put 3 6"}, {opOf(impl.OpPut, 0, 6), "put 0 6"}, {opOf(impl.OpPut, 3, 1), "put 3 1"},
	{opOf(impl.OpSet, 0, 1), "set 0 1"}, {opOf(impl.OpSet, 3, 6), "set 3 6"}, {opOf(impl.OpSet, 0, 6), "set 0 6"}, {opOf(impl.OpSet, 3, 1), "set 3 1"},
	{opOf(impl.OpPut, 1, 2), "put 1 2"}, {opOf(impl.OpPut, 2, 1), "put 2 1"}, {opOf(impl.OpSet, 1, 2), "set 1 2"}, {opOf(impl.OpSet, 2, 1), "set 2 1"},
	{opOf(impl.OpDel, 0, 0), "del 0"}, {opOf(impl.OpDel, 3, 0), "del 3"},
	{opOf(impl.OpGet, 0, 0), "get 0"}, {opOf(impl.OpGet, 3, 0), "get 3"},
	{opOf(impl.OpFind, 0, 1), "find 1"}, {opOf(impl.OpFind, 0, 6), "find 6"},
	{opOf(impl.OpCount, 0, 0), "count 0"}, {opOf(impl.OpCount, 2, 0), "count 2"},
	{opOf(impl.OpScan, 0, 0), "scan"}, {opOf(impl.OpOpen, 0, 0), "open"}, {opOf(impl.OpMake, 0, 0), "make"},
	{opOf(impl.OpVia, 0, 1), "via 1"}, {opOf(impl.OpVia, 0, 6), "via 6"},
}

func TestOpsAsTextByHand(t *testing.T) {
	for _, c := range textsByHand {
		checkOpText(t, c.o, c.text)
		if got, ok := impl.OpOf(c.text); got != c.o || !ok {
			t.Errorf("OpOf(%q) = %v, %v, want %v", c.text, got, ok, c.o)
		}
		if told := textTold(c.o); told != c.text {
			t.Errorf("%v is told as %q, and by hand as %q", c.o, told, c.text)
		}
	}
}

// Of every op OpOf of OpText is that op, and no two have one text.
func TestEveryOpIsReadAsItWas(t *testing.T) {
	seen := map[string]impl.Op{}
	for _, o := range everyOp() {
		text := impl.OpText(o)
		if other, is := seen[text]; is {
			t.Fatalf("%v and %v are both %q", o, other, text)
		}
		seen[text] = o
		checkOpText(t, o, textTold(o))
		if got, ok := impl.OpOf(text); got != o || !ok {
			t.Fatalf("OpOf(OpText(%v)) = %v, %v", o, got, ok)
		}
	}
	if len(seen) != 74 {
		t.Fatalf("%d texts", len(seen))
	}
}

func TestOpTextOfWhatIsNotOk(t *testing.T) {
	for _, o := range wrongOps() {
		checkOpText(t, o, "none")
	}
	for _, kind := range outside(1, 10) {
		for _, o := range []impl.Op{opOf(kind, 0, 0), opOf(kind, 0, 1), opOf(kind, 3, 6)} {
			checkOpText(t, o, "none")
		}
	}
	for _, o := range []impl.Op{
		opOf(impl.OpPut, 4, 1), opOf(impl.OpPut, -1, 1), opOf(impl.OpPut, 0, 0), opOf(impl.OpPut, 0, 7), opOf(impl.OpSet, 4, 6), opOf(impl.OpSet, 3, 7),
		opOf(impl.OpDel, 4, 0), opOf(impl.OpDel, 0, 1), opOf(impl.OpGet, -1, 0), opOf(impl.OpGet, 3, 6), opOf(impl.OpFind, 1, 1), opOf(impl.OpFind, 0, 0),
		opOf(impl.OpCount, 3, 0), opOf(impl.OpCount, -1, 0), opOf(impl.OpCount, 0, 1), opOf(impl.OpScan, 1, 0), opOf(impl.OpScan, 0, 1),
		opOf(impl.OpOpen, -1, 0), opOf(impl.OpMake, 0, -1), opOf(impl.OpVia, 0, 7), opOf(impl.OpVia, 1, 6), {},
	} {
		checkOpText(t, o, "none")
	}
}

// Each number near the edges and far off, in each place.
func TestOpTextOfAnyOp(t *testing.T) {
	for kind := -2; kind <= 13; kind++ {
		for k := -2; k <= 6; k++ {
			for v := -2; v <= 9; v++ {
				checkOpText(t, opOf(kind, k, v), textTold(opOf(kind, k, v)))
			}
		}
	}
	for _, o := range everyOp() {
		for _, n := range strays {
			for _, bent := range []impl.Op{opOf(n, o.K, o.V), opOf(o.Kind, n, o.V), opOf(o.Kind, o.K, n)} {
				checkOpText(t, bent, textTold(bent))
			}
		}
	}
}

func TestOpOfRefuses(t *testing.T) {
	for _, s := range []string{
		"", " ", "  ", "none", "none 0", "what", "done", "?", "0", "1", "0 1", "1 put", "1 0 1",
		"put", "put 0", "put 0 ", "put  1", "put 0 1 1", "put 0 1 ", "put 0 1 0", "put  0 1", "put 0  1", " put 0 1", "put 0\t1", "put\t0 1", "put 0,1", "put0 1", "put 01", "put 0 01", "put 00 1", "put 0 001", "put 000000 1",
		"put 4 1", "put 0 7", "put 0 0", "put -1 1", "put -0 1", "put +0 1", "put 0 +1", "put 0 -1", "put 1000000 1", "put 0 1000001", "put 999999 1", "put 0 999999",
		"set", "set 0", "set 0 ", "set 0 1 1", "set 4 1", "set 0 7", "set 0 0", "set 00 1", "set 0 06", "set +3 6", "set 3 6 ",
		"del", "del ", "del  ", "del 4", "del 0 1", "del 0 0", "del 00", "del 03", "del -0", "del +1", "del -1", "del  0", "del 0 ", " del 0", "del\n0", "del 0\n",
		"get", "get ", "get 4", "get 1 1", "get 00", "get 01", "get +1", "get -1", "get x", "get 1x", "get 0x1", "get 1.0", "get 1e0",
		"find", "find ", "find 0", "find 7", "find 0 1", "find 1 1", "find 01", "find 1 ", "find +1", "find 0 6",
		"count", "count ", "count 3", "count -1", "count 00", "count 02", "count 0 0", "count 2 ", "count  2", "count 6",
		"scan ", " scan", "scan 0", "scan 1", "scan 0 0", "scans", "sca", "open ", " open", "open 0", "opens", "make ", "make 0", "make 0 0", "make\x00",
		"via", "via ", "via 0", "via 7", "via 0 1", "via 06", "via 6 ", "via  6", "via 1 1", "viA 1",
		"Put 0 1", "PUT 0 1", "puT 0 1", "Scan", "SCAN", "Open", "Make", "Get 1", "Del 0", "Count 0", "Find 1", "Via 1", "Set 0 1",
		"putt 0 1", "pu 0 1", "p 0 1", "delete 0", "row 0", "OpPut 0 1", "see 1", "1",
		"\x00", "\xff", "\xff 1", "get \xff", "get \x001", "get 1\x00", "get \xb1", "get \u0661", "get \uff11", "\uff47et 1", "g\u00e9t 1", "get\u00a01", "get\xa01", "\xef\xbb\xbfscan", "scan\r", "scan\n", "\nscan", "scan;", ";", "scan;scan", "get 1;",
		"get 18446744073709551616", "get 18446744073709551617", "get 4294967297", "get 4294967296", "find 18446744073709551617", "put 18446744073709551616 1", "put 0 4294967297", "get 9223372036854775808", "get -18446744073709551615",
	} {
		if got, ok := impl.OpOf(s); got != (impl.Op{}) || ok {
			t.Errorf("OpOf(%q) = %v, %v", s, got, ok)
		}
	}
}

func TestOpOfLongTexts(t *testing.T) {
	for _, s := range []string{strings.Repeat(" ", 1<<20), "scan" + strings.Repeat(" ", 1<<20), "get " + strings.Repeat("0", 1<<20), "get " + strings.Repeat("9", 1<<20), "put" + strings.Repeat(" 1", 1<<16), strings.Repeat("scan", 1<<18), strings.Repeat("\xff", 1<<20), "get 1" + strings.Repeat("\x00", 1<<10)} {
		if got, ok := impl.OpOf(s); got != (impl.Op{}) || ok {
			t.Errorf("OpOf of a text of %d bytes = %v, %v", len(s), got, ok)
		}
	}
}

// Each text that is one byte away from an op's: with a byte more, with one less, with another one in its place.
func TestOpOfEveryTextNear(t *testing.T) {
	texts := opTexts()
	for text := range texts {
		checkOpOf(t, texts, text)
		for at := range len(text) + 1 {
			for b := range 256 {
				checkOpOf(t, texts, text[:at]+string([]byte{byte(b)})+text[at:])
				if at < len(text) {
					checkOpOf(t, texts, text[:at]+string([]byte{byte(b)})+text[at+1:])
				}
			}
			for end := at; end <= len(text); end++ {
				checkOpOf(t, texts, text[:at]+text[end:])
			}
		}
	}
}

// Each name, and such as are none, with none to three numbers behind it, and such as are none.
func TestOpOfNamesAndNumbers(t *testing.T) {
	texts, read := opTexts(), 0
	names := strings.Fields("put set del get find count scan open make via none what done Put SCAN p 1 0")
	nums := append(strings.Fields("0 1 2 3 4 5 6 7 8 9 10 11 00 01 06 000001 -0 -1 +0 +1 1x x 999999 1000000 1000001 4294967297 18446744073709551617 -9223372036854775808"), "", "\xff", "1\n")
	for _, name := range append(names, "", "\xff", "put\t") {
		checkOpOf(t, texts, name)
		for _, a := range nums {
			checkOpOf(t, texts, name+" "+a)
			checkOpOf(t, texts, name+"  "+a)
			checkOpOf(t, texts, " "+name+" "+a)
			checkOpOf(t, texts, name+a)
			for _, b := range nums {
				text := name + " " + a + " " + b
				checkOpOf(t, texts, text)
				checkOpOf(t, texts, text+" ")
				checkOpOf(t, texts, text+" 0")
				checkOpOf(t, texts, name+" "+a+"  "+b)
				checkOpOf(t, texts, name+" "+a+"\t"+b)
				if _, ok := impl.OpOf(text); ok {
					read++
				}
			}
		}
	}
	if read != 48 {
		t.Errorf("%d texts with two numbers are read", read)
	}
}

func checkTextsFrom(t *testing.T, texts map[string]impl.Op, s string, bytes string, room int) {
	t.Helper()
	checkOpOf(t, texts, s)
	if room == 0 {
		return
	}
	for i := range len(bytes) {
		checkTextsFrom(t, texts, s+bytes[i:i+1], bytes, room-1)
	}
}

// No name is read beside those that there are.
func TestOpOfAllShortTexts(t *testing.T) {
	texts := opTexts()
	checkTextsFrom(t, texts, "", "abcdefghijklmnopqrstuvwxyz 1", 4)
	checkTextsFrom(t, texts, "", "scanopemk;\x00S", 5)
	for name := range strings.FieldsSeq("put set del get find count scan open make via") {
		checkTextsFrom(t, texts, name, " 0176+-;", 4)
	}
}

// Of what OpOf reads OpText is that text.
func TestOpTextOfWhatIsRead(t *testing.T) {
	d, bytes, read := dice(14), "putsedlgfincoamvk 0123456789", 0
	texts := slices.Sorted(func(yield func(string) bool) {
		for text := range opTexts() {
			if !yield(text) {
				return
			}
		}
	})
	for range 200000 {
		text := []byte(texts[d.roll(len(texts))])
		for range d.roll(3) {
			text[d.roll(len(text))] = bytes[d.roll(len(bytes))]
		}
		if o, ok := impl.OpOf(string(text)); ok {
			read++
			checkOpText(t, o, string(text))
		} else if slices.Contains(texts, string(text)) {
			t.Fatalf("%q is not read", text)
		}
	}
	if read < 50000 || read > 150000 {
		t.Errorf("%d of 200000 are read", read)
	}
}

func TestProgText(t *testing.T) {
	bad := impl.Op{}
	for _, c := range []struct {
		list []impl.Op
		want string
	}{
		{nil, ""}, {[]impl.Op{}, ""}, {make([]impl.Op, 0, 5), ""},
		{[]impl.Op{opOf(impl.OpScan, 0, 0)}, "scan"}, {[]impl.Op{opOf(impl.OpPut, 3, 6)}, "put 3 6"},
		{[]impl.Op{opOf(impl.OpScan, 0, 0), opOf(impl.OpGet, 1, 0)}, "scan;get 1"},
		{manyOps(8), "put 3 6;scan;via 1;put 3 6;scan;via 1;put 3 6;scan"},
		{manyOps(9), "put 3 6;scan;via 1;put 3 6;scan;via 1;put 3 6;scan;via 1"},
		{manyOps(11), "put 3 6;scan;via 1;put 3 6;scan;via 1;put 3 6;scan;via 1;put 3 6;scan"},
		{[]impl.Op{bad}, "none"}, {[]impl.Op{bad, bad}, "none;none"},
		{[]impl.Op{bad, opOf(impl.OpOpen, 0, 0)}, "none;open"},
		{[]impl.Op{opOf(impl.OpOpen, 0, 0), opOf(impl.OpGet, 4, 0), opOf(impl.OpMake, 0, 0)}, "open;none;make"},
		{[]impl.Op{opOf(impl.OpOpen, 0, 0), opOf(impl.OpVia, 0, 7)}, "open;none"},
		{[]impl.Op{opOf(math.MinInt, 0, 0), opOf(impl.OpCount, 2, 0), opOf(math.MaxInt, 0, 0)}, "none;count 2;none"},
	} {
		if got := impl.ProgText(c.list); got != c.want {
			t.Errorf("ProgText(%v) = %q, want %q", c.list, got, c.want)
		}
	}
	if got := impl.ProgText(slices.Repeat([]impl.Op{{Kind: impl.OpMake}}, 5000)); got != strings.Repeat("make;", 4999)+"make" {
		t.Errorf("ProgText of 5000 ops has %d bytes", len(got))
	}
}

func TestProgTextIsEachOpText(t *testing.T) {
	d, ops := dice(15), append(everyOp(), wrongOps()...)
	for n := range 200 {
		list, texts := []impl.Op{}, []string{}
		for range n % 20 {
			o := ops[d.roll(len(ops))]
			list, texts = append(list, o), append(texts, textTold(o))
		}
		if got, want := impl.ProgText(list), strings.Join(texts, ";"); got != want {
			t.Fatalf("ProgText(%v) = %q, want %q", list, got, want)
		}
	}
}

func TestProgOfByHand(t *testing.T) {
	scan, get := opOf(impl.OpScan, 0, 0), opOf(impl.OpGet, 1, 0)
	for _, c := range []struct {
		s    string
		want []impl.Op
	}{
		{"", nil}, {"scan", []impl.Op{scan}}, {"get 1", []impl.Op{get}}, {"scan;get 1", []impl.Op{scan, get}}, {"get 1;scan", []impl.Op{get, scan}},
		{"scan;scan;scan", []impl.Op{scan, scan, scan}},
		{"put 3 6;set 0 1;del 2;get 1;find 4;count 2;open;via 6", []impl.Op{opOf(impl.OpPut, 3, 6), opOf(impl.OpSet, 0, 1), opOf(impl.OpDel, 2, 0), get, opOf(impl.OpFind, 0, 4), opOf(impl.OpCount, 2, 0), opOf(impl.OpOpen, 0, 0), opOf(impl.OpVia, 0, 6)}},
	} {
		if got, ok := impl.ProgOf(c.s); !slices.Equal(got, c.want) || !ok {
			t.Errorf("ProgOf(%q) = %v, %v", c.s, got, ok)
		}
	}
}

func TestProgOfRefuses(t *testing.T) {
	for _, s := range []string{
		";", ";;", ";scan", "scan;", ";scan;", "scan;;scan", "scan;;get 1", "get 1;;", ";;get 1", ";;;;;;;", ";;;;;;;;",
		" ", " ;", "; ", "scan; get 1", "scan ;get 1", "scan ; get 1", " scan;get 1", "scan;get 1 ",
		"none", "none;none", "scan;none", "none;scan", "scan;none;scan", "what", "scan;get 4", "get 01;scan", "scan;get 01", "scan;Scan;scan", "scan;put 0 1 1", "put 0;1", "put;0;1", "put 0 1;0",
		"scan,scan", "scan/scan", "scan\nscan", "scan\n", "scan:scan", "scan\x00scan", "scan\xbbscan", "scan\u037escan", "scan\uff1bscan", "scan scan", "scanscan",
		"scan;scan;scan;scan;scan;scan;scan;scan;scan", "scan;scan;scan;scan;scan;scan;scan;scan;", ";scan;scan;scan;scan;scan;scan;scan;scan", "none;scan;scan;scan;scan;scan;scan;scan;scan",
		"scan;scan;scan;scan;scan;scan;scan;none", "none;scan;scan;scan;scan;scan;scan;scan", "scan;scan;scan;scan;scan;scan;scan;",
		strings.Repeat("scan;", 1<<16) + "scan", strings.Repeat(";", 1<<20),
	} {
		if got, ok := impl.ProgOf(s); len(got) != 0 || ok {
			t.Errorf("ProgOf(%.80q) = %v, %v", s, got, ok)
		}
	}
}

// Programs of each length up to some that are too long, with each op alone, and with one text that is none at each place.
func TestProgOfEachLength(t *testing.T) {
	texts := opTexts()
	for n := 1; n <= 18; n++ {
		for text, o := range texts {
			parts := slices.Repeat([]string{text}, n)
			want, is := slices.Repeat([]impl.Op{o}, n), n <= 8
			if !is {
				want = nil
			}
			if got, ok := impl.ProgOf(strings.Join(parts, ";")); ok != is || !slices.Equal(got, want) {
				t.Fatalf("ProgOf of %d times %q = %v, %v", n, text, got, ok)
			}
		}
		for at := range n {
			for _, bad := range []string{"", " ", "none", "scan ", " scan", "get 00", "get", "get 4", "via 7", "Scan", "put 0 1 ", "\xff"} {
				parts := slices.Repeat([]string{"scan"}, n)
				parts[at] = bad
				s := strings.Join(parts, ";")
				if got, ok := impl.ProgOf(s); s != "" && ok || len(got) != 0 {
					t.Fatalf("ProgOf(%q) = %v, %v", s, got, ok)
				}
			}
		}
	}
}

func checkProgsFrom(t *testing.T, texts map[string]impl.Op, s string, pieces []string, room int) {
	t.Helper()
	checkProgOf(t, texts, s)
	if room == 0 {
		return
	}
	for _, piece := range pieces {
		checkProgsFrom(t, texts, s+piece, pieces, room-1)
	}
}

// All that can be put together of a few pieces.
func TestProgOfPieces(t *testing.T) {
	texts := opTexts()
	checkProgsFrom(t, texts, "", []string{";", "scan", "get 3", " ", "put 0 6", "none", ";open", "0"}, 5)
	checkProgsFrom(t, texts, "scan;scan;scan;scan", []string{";", ";scan", ";via 1", " ", ";none"}, 6)
}

// All pairs of ops in this order, and longer programs that look like any.
func TestProgramsAreReadAsTheyWere(t *testing.T) {
	d, ops, lists := dice(16), everyOp(), [][]impl.Op{nil}
	for _, a := range ops {
		lists = append(lists, []impl.Op{a})
		for _, b := range ops {
			lists = append(lists, []impl.Op{a, b})
		}
	}
	for i := range 3000 {
		list := []impl.Op{}
		for range 3 + i%6 {
			list = append(list, ops[d.roll(len(ops))])
		}
		lists = append(lists, list)
	}
	texts, seen := opTexts(), map[string]bool{}
	for _, list := range lists {
		s := impl.ProgText(list)
		checkProgOf(t, texts, s)
		got, ok := impl.ProgOf(s)
		if !slices.Equal(got, list) || !ok || impl.ProgText(got) != s {
			t.Fatalf("ProgOf(ProgText(%v)) = %v, %v", list, got, ok)
		}
		seen[s] = true
	}
	if len(seen) < 1+74+74*74+2900 {
		t.Errorf("%d programs", len(seen))
	}
}

// What is more than MaxOps, or has an op in it that is not OpOk, is written but not read.
func TestProgramsThatAreNotRead(t *testing.T) {
	if impl.MaxOps != 8 {
		t.Errorf("MaxOps is %d", impl.MaxOps)
	}
	lists := [][]impl.Op{manyOps(9), manyOps(10), manyOps(100)}
	for _, o := range wrongOps() {
		lists = append(lists, []impl.Op{o}, []impl.Op{o, {Kind: impl.OpScan}}, []impl.Op{{Kind: impl.OpScan}, o}, append(manyOps(7), o))
	}
	for _, list := range lists {
		if got, ok := impl.ProgOf(impl.ProgText(list)); len(got) != 0 || ok {
			t.Fatalf("ProgOf(ProgText(%v)) = %v, %v", list, got, ok)
		}
	}
}

func TestResTextByHand(t *testing.T) {
	for _, c := range []struct {
		s    impl.Res
		want string
	}{
		{impl.Res{}, "done"}, {resOf(impl.RsDone), "done"}, {resOf(impl.RsThere), "there"}, {resOf(impl.RsTaken), "taken"}, {resOf(impl.RsNone), "none"}, {resOf(impl.RsNot), "not"},
		{impl.Res{List: []int{}}, "done"}, {impl.Res{Code: 4, List: make([]int, 0, 3)}, "not"},
		{resOf(impl.RsDone, 0), "done 0"}, {resOf(impl.RsThere, 1), "there 1"}, {resOf(impl.RsTaken, 20), "taken 20"}, {resOf(impl.RsNone, -1), "none -1"}, {resOf(impl.RsNot, 300), "not 300"},
		{resOf(impl.RsDone, 1, 2), "done 1,2"}, {resOf(impl.RsDone, 5, 0, 2, 0), "done 5,0,2,0"}, {resOf(impl.RsThere, 3, 2, 1), "there 3,2,1"}, {resOf(impl.RsTaken, 0, 0), "taken 0,0"}, {resOf(impl.RsNone, -7, 7), "none -7,7"}, {resOf(impl.RsNot, 10, -10), "not 10,-10"},
		{resOf(impl.RsDone, math.MinInt, 0, math.MaxInt), "done -9223372036854775808,0,9223372036854775807"},
		{resOf(-1), "what"}, {resOf(5), "what"}, {resOf(7), "what"}, {resOf(math.MinInt), "what"}, {resOf(math.MaxInt), "what"},
		{resOf(-1, 3), "what 3"}, {resOf(5, 1, 2), "what 1,2"}, {resOf(math.MinInt, math.MinInt), "what -9223372036854775808"}, {resOf(math.MaxInt, 0, -1), "what 0,-1"},
	} {
		if got := impl.ResText(c.s); got != c.want {
			t.Errorf("ResText(%v) = %q, want %q", c.s, got, c.want)
		}
		if told := resTold(c.s); told != c.want {
			t.Errorf("%v is told as %q, and by hand as %q", c.s, told, c.want)
		}
	}
}

func someTold() [][]int {
	return [][]int{nil, {}, {0}, {1}, {-1}, {9, 10, 11}, {0, 0, 0, 0}, {6, 0, -3, 1000000}, {math.MinInt}, {math.MaxInt}, {math.MaxInt, math.MinInt}, slices.Repeat([]int{-12}, 300)}
}

func TestResTextOfAnyCode(t *testing.T) {
	for _, list := range someTold() {
		for code := range 5 {
			if got, want := impl.ResText(resOf(code, list...)), resTold(resOf(code, list...)); got != want {
				t.Errorf("ResText of %d and %v = %q, want %q", code, list, got, want)
			}
		}
		for _, code := range outside(0, 4) {
			if got, want := impl.ResText(resOf(code, list...)), resTold(resOf(code, list...)); got != want || !strings.HasPrefix(got, "what") {
				t.Errorf("ResText of %d and %v = %q, want %q", code, list, got, want)
			}
		}
	}
}

// What is written stands in one line, and in one part of a program: only then can lines and programs be made of it.
func TestTextsHaveNoByteThatParts(t *testing.T) {
	for _, o := range append(everyOp(), wrongOps()...) {
		if text := impl.OpText(o); text == "" || strings.ContainsAny(text, ";/\n:") {
			t.Errorf("OpText(%v) = %q", o, text)
		}
	}
	for code := -1; code <= 5; code++ {
		for _, list := range someTold() {
			if text := impl.ResText(resOf(code, list...)); text == "" || strings.ContainsAny(text, ";/\n:") {
				t.Errorf("ResText of %d and %v = %q", code, list, text)
			}
		}
	}
}

// Nothing is written into a list that is handed in, nor into the spare room behind it, and what stands there is not told.
func TestTextsWriteIntoNothing(t *testing.T) {
	for _, list := range [][]impl.Op{nil, manyOps(1), manyOps(3), manyOps(8), manyOps(9), wrongOps(), everyOp()} {
		given := roomy(list, opOf(impl.OpGet, 2, 0))
		whole := slices.Clone(given[:cap(given)])
		if got, want := impl.ProgText(given), impl.ProgText(slices.Clone(list)); got != want {
			t.Errorf("ProgText(%v) with room = %q, want %q", list, got, want)
		}
		if !slices.Equal(given[:cap(given)], whole) {
			t.Errorf("%v was written: %v", whole, given[:cap(given)])
		}
	}
	for _, list := range someTold() {
		for code := -1; code <= 5; code++ {
			given := withRoom(list)
			before := slices.Clone(given)
			if got, want := impl.ResText(impl.Res{Code: code, List: given[:len(list)]}), resTold(resOf(code, list...)); got != want {
				t.Errorf("ResText of %d and %v with room = %q, want %q", code, list, got, want)
			}
			if !slices.Equal(given, before) {
				t.Errorf("%v was written: %v", before, given)
			}
		}
	}
	for _, s := range someProgs() {
		given := strings.Clone(s)
		impl.OpOf(given)
		impl.ProgOf(given)
		if given != s {
			t.Errorf("%q was turned into %q", s, given)
		}
	}
}

// someProgs has texts of each sort: ops, programs, and such as are neither.
func someProgs() []string {
	list := []string{"", ";", "scan", "scan;", "none", "get 01", "put 3 6;scan;via 1", "scan;none", "scan;scan;scan;scan;scan;scan;scan;scan", "scan;scan;scan;scan;scan;scan;scan;scan;scan", "\xff"}
	for _, c := range textsByHand {
		list = append(list, c.text, c.text+";"+c.text, c.text+" ")
	}
	return list
}

// What ProgOf answers is new memory at each call.
func TestProgOfSharesNothing(t *testing.T) {
	texts := opTexts()
	for _, s := range someProgs() {
		first, _ := impl.ProgOf(s)
		want := slices.Clone(first)
		second, _ := impl.ProgOf(s)
		for i := range second[:cap(second)] {
			second[:cap(second)][i] = opOf(81, 82, 83)
		}
		if !slices.Equal(first, want) {
			t.Errorf("ProgOf(%q) became %v when another answer was written into", s, first)
		}
		checkProgOf(t, texts, s)
	}
}

// textCalls has of each function of the chapter what it answers, as one text.
func textCalls() map[string]func() string {
	ops := append(everyOp(), wrongOps()...)
	return map[string]func() string{
		"OpText": func() string {
			told := ""
			for _, o := range ops {
				told += impl.OpText(o) + "\n"
			}
			return told
		},
		"OpOf": func() string {
			told := ""
			for _, s := range someProgs() {
				o, ok := impl.OpOf(s)
				told += fmt.Sprintln(o, ok)
			}
			return told
		},
		"ProgText": func() string { return impl.ProgText(ops) + "\n" + impl.ProgText(nil) },
		"ProgOf": func() string {
			told := ""
			for _, s := range someProgs() {
				list, ok := impl.ProgOf(s)
				told += fmt.Sprintln(list, ok)
			}
			return told
		},
		"ResText": func() string {
			told := ""
			for _, list := range someTold() {
				for code := -1; code <= 5; code++ {
					told += impl.ResText(resOf(code, list...)) + "\n"
				}
			}
			return told
		},
	}
}

// callsTold has the same by the document's words.
func callsTold() map[string]string {
	texts, told := opTexts(), map[string]string{}
	ops, written := append(everyOp(), wrongOps()...), []string{}
	for _, o := range ops {
		written = append(written, textTold(o))
	}
	told["OpText"] = strings.Join(written, "\n") + "\n"
	told["ProgText"] = strings.Join(written, ";") + "\n"
	for _, s := range someProgs() {
		o, is := texts[s]
		told["OpOf"] += fmt.Sprintln(o, is)
		list, fine := progTold(texts, s)
		told["ProgOf"] += fmt.Sprintln(list, fine)
	}
	for _, list := range someTold() {
		for code := -1; code <= 5; code++ {
			told["ResText"] += resTold(resOf(code, list...)) + "\n"
		}
	}
	return told
}

// Nothing is kept: the same is answered whatever was asked meanwhile.
func TestTextsAnswerTheSameAtEachCall(t *testing.T) {
	checkSameAtEachCall(t, textCalls(), callsTold())
}

// checkSameAtEachCall has each of calls asked again and again, by many at once: what is answered stays what is wanted of it, whatever was asked meanwhile.
func checkSameAtEachCall(t *testing.T, calls map[string]func() string, want map[string]string) {
	t.Helper()
	var all sync.WaitGroup
	for range 8 {
		all.Go(func() {
			for range 20 {
				for name, call := range calls {
					if got := call(); got != want[name] {
						t.Errorf("%s answers\n%s\nnot\n%s", name, got, want[name])
					}
				}
			}
		})
	}
	all.Wait()
}

// firstCall names, in a process of its own, the function that is called there ahead of all others.
const firstCall = "FIRST_CALL"

// TestAheadOfAnyOtherCall has each function called first in a process, by many at once: what is made once must be there for whoever comes first.
func TestAheadOfAnyOtherCall(t *testing.T) {
	checkEachCalledFirst(t, textCalls(), callsTold())
}

// checkEachCalledFirst runs the test that asks for it again, in a process of its own for each of calls. Neither calls nor what is wanted of them may be made by a call of the program.
func checkEachCalledFirst(t *testing.T, calls map[string]func() string, want map[string]string) {
	t.Helper()
	if name := os.Getenv(firstCall); name != "" {
		checkCalledFirst(t, name, calls[name], want[name])
		return
	}
	program, err := os.Executable()
	if err != nil {
		t.Fatal(err)
	}
	for name := range calls {
		run := exec.Command(program, "-test.run=^"+t.Name()+"$", "-test.v")
		run.Env = append(os.Environ(), firstCall+"="+name)
		told, err := run.CombinedOutput()
		if err != nil || !strings.Contains(string(told), "called first: "+name) {
			t.Errorf("%s ahead of all others: %v\n%s", name, err, told)
		}
	}
}

func checkCalledFirst(t *testing.T, name string, call func() string, want string) {
	t.Helper()
	var all sync.WaitGroup
	for range 8 {
		all.Go(func() {
			if got := call(); got != want {
				t.Errorf("%s answers\n%s\nnot\n%s", name, got, want)
			}
		})
	}
	all.Wait()
	t.Log("called first: " + name)
}
