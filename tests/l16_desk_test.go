package tests

import (
	"fmt"
	"maps"
	"regexp"
	"runtime"
	"slices"
	"strconv"
	"strings"
	"sync"
	"testing"
	"time"

	"loop.example/g00468/impl"
)

// Promise 16: a session tells what DeskLine tells, line by line; what asks turns nothing.

// lineSo has the lines that there are, but those that tell nothing.
var lineSo = regexp.MustCompile(`\A(show|judge|(step|alone|fair|word) (0|[1-9][0-9]{0,5})|steps (0|[1-9][0-9]{0,5}) (0|[1-9][0-9]{0,5}))\z`)

// deskTold and sessionTold answer by the document's words, with names and limits written anew.
func deskTold(m impl.Machine, line string) (impl.Machine, string) {
	if !machineTold(m) {
		return m, "bad"
	}
	if line == "" || line[0] == '#' {
		return m, ""
	}
	if !lineSo.MatchString(line) {
		return m, "what"
	}
	parts := strings.Split(line+" 0 0", " ")
	first, _ := strconv.Atoi(parts[1])
	second, _ := strconv.Atoi(parts[2])
	switch parts[0] {
	case "step":
		next, went := stepTold(m, first)
		return next, map[bool]string{true: "ok", false: "no"}[went]
	case "steps":
		if second > 2000 {
			return m, "what"
		}
		return playTold(m, slices.Repeat([]int{first}, second)), "ok"
	case "alone":
		return aloneTold(m, first, 400*len(m.Threads)), "ok"
	case "fair":
		return fairTold(m, first), "ok"
	case "word":
		if first > 19 {
			return m, "none"
		}
		return m, wordShown(m.Mem.Words[first])
	case "show":
		return m, machineShown(m)
	}
	j := judgedTold(m)
	return m, map[bool]string{true: "yes", false: "no"}[j.so && j.words && j.times]
}

// progsTold has a new machine of programs, and whether there is one.
func progsTold(progs string) (impl.Machine, bool) {
	texts, m := opTexts(), impl.Machine{Mem: tableMem(rowsOf(0, 0, 0, 0, 0), nil), First: rowsOf(0, 0, 0, 0, 0)}
	for _, prog := range strings.Split(progs, "/") {
		list, is := progTold(texts, prog)
		if !is {
			return impl.Machine{}, false
		}
		m.Threads, m.Mem.Descs = append(m.Threads, impl.Thread{Ops: list}), append(m.Mem.Descs, impl.Desc{})
	}
	return m, len(m.Threads) <= 4
}

func sessionTold(progs string, lines string) (string, int) {
	m, is := progsTold(progs)
	if !is {
		return "", -1
	}
	list := strings.Split(lines, "\n")
	if list[len(list)-1] == "" {
		list = list[:len(list)-1]
	}
	if len(list) > 60 {
		return "", -2
	}
	said := ""
	for _, line := range list {
		next, told := deskTold(m, line)
		if m = next; told != "" {
			said += told + "\n"
		}
	}
	return said, len(list)
}

func checkLine(t *testing.T, m impl.Machine, line string, want impl.Machine, told string) impl.Machine {
	t.Helper()
	got, said := impl.DeskLine(m, line)
	if said != told || !machineSame(got, want) {
		t.Fatalf("DeskLine(%v, %.60q) = %v, %q, want %v, %q", m, line, got, said, want, told)
	}
	return got
}

// checkDesk asks that a line is as the document's words say, and that it leaves the machine right.
func checkDesk(t *testing.T, m impl.Machine, line string) impl.Machine {
	t.Helper()
	want, told := deskTold(m, line)
	got := checkLine(t, m, line, want, told)
	if !impl.MachineOk(got) && told != "bad" {
		t.Fatalf("DeskLine(%v, %q) leaves %v, which is not MachineOk", m, line, got)
	}
	return got
}

func checkSession(t *testing.T, progs string, lines string, want string, n int) {
	t.Helper()
	if said, many := impl.Session(progs, lines); said != want || many != n {
		t.Fatalf("Session(%.200q, %.600q) = %q, %d, want %q, %d", progs, lines, said, many, want, n)
	}
}

func TestDeskConstants(t *testing.T) {
	if impl.MaxLines != 60 {
		t.Errorf("MaxLines is %d", impl.MaxLines)
	}
}

// linesThatTurn, linesThatAsk, linesThatTellNothing and linesThatAreNone have lines of each sort.
func linesThatTurn() []string {
	return []string{"step 0", "step 1", "step 2", "steps 0 1", "steps 1 7", "steps 2 40", "steps 0 2000", "alone 0", "alone 1", "alone 2", "fair 1", "fair 5", "fair 2000", "fair 999999"}
}

func linesThatAsk() []string {
	list := []string{"show", "judge", "word 20", "word 21", "word 999999"}
	for place := range 20 {
		list = append(list, fmt.Sprint("word ", place))
	}
	return list
}

func linesThatTellNothing() []string {
	return []string{"", "#", "##", "# ", "#x", "# step 0", "#step 0", "#show", "#\xff\xfe", "#\x00", "#\nstep 0", "#\r", "# a longer one, with ; and / in it", "#" + strings.Repeat(" #", 5000)}
}

func linesThatAreNone() []string {
	return []string{
		// Numbers that are not as they are written, too great, below 0, or none.
		"step 00", "step 01", "step 000000", "step 012", "steps 00 1", "steps 0 00", "steps 0 01", "steps 01 1", "alone 00", "alone 01", "fair 00", "fair 03", "word 00", "word 01", "word 007",
		"step -1", "step -0", "step +0", "step +1", "steps -1 1", "steps 0 -1", "steps 0 +1", "alone -1", "alone +1", "fair -1", "fair +1", "word -1", "word -0", "word +1",
		"step 1000000", "step 0000000", "step 9999999", "steps 1000000 1", "steps 0 1000000", "alone 1000000", "fair 1000000", "fair 2000000", "word 1000000", "word 18446744073709551616", "word 9223372036854775808", "fair 18446744073709551617",
		"step a", "step 1a", "step a1", "step 0x1", "step 1.0", "step 1e0", "step 1_0", "step 1,0", "step #", "step #0", "word *0.1", "word \xef\xbc\x91", "word \xd9\xa1", "word \xc2\xb2", "steps 0 \xef\xbc\x91",
		// Blanks: two, ahead, behind, none; and other white space.
		"step  0", " step 0", "step 0 ", "  step 0", "step 0  ", "steps  0 1", "steps 0  1", " steps 0 1", "steps 0 1 ", "alone  0", " alone 0", "alone 0 ", "fair  1", " fair 1", "fair 1 ", "word  1", " word 1", "word 1 ", " show", "show ", " judge", "judge ", " ", "  ", "   ",
		"step0", "steps0 1", "steps 01", "alone0", "fair1", "word1", "step\t0", "step\v0", "step\f0", "step\x000", "step\xa00", "step\xc2\xa00", "step\xe2\x80\x830", "step\xe3\x80\x800", "step\n0", "step\r0", "steps 0\t1", "steps\t0 1", "\tshow", "show\t", "\t",
		// Too few numbers, or too many.
		"step", "step ", "step 0 0", "step 0 1 2", "steps", "steps ", "steps 0", "steps 0 ", "steps 0 1 2", "steps 0 1 2 3", "alone", "alone ", "alone 0 1", "fair", "fair ", "fair 1 1", "word", "word ", "word 1 1", "show 0", "show 0 0", "judge 0", "judge 1",
		// Names that are longer, shorter, none, or with great letters.
		"ste 0", "st 0", "s 0", "stepp 0", "tep 0", "step: 0", "step, 0", "stepss 0 1", "alon 0", "alones 0", "fai 1", "fairs 1", "wor 1", "words 1", "sho", "shows", "how", "judg", "judges", "udge",
		"Step 0", "STEP 0", "steP 0", "Steps 0 1", "Alone 0", "Fair 1", "Word 1", "Show", "SHOW", "shoW", "Judge", "JUDGE", "play 0", "help", "x", "none", "what", "bad", "ok", "no", "yes", "put 1 3", "scan", "get 1", "0", "1", "0 step", "0 0", "-", "/", ";", "*", "*0.1",
		// A # that is not the first byte.
		" #", " # x", "step #", "step 0#", "step 0 #", "show#", "show #", "x#", "\x00#", "\xff#", "\n#", "\xef\xbb\xbf#",
		// Bytes that are no text, and such as end no name.
		"\xff", "\xfe\xff", "\x80", "\xc3", "\xe2\x80", "\xf0\x9f\x98", "\xc0\x80", "\xed\xa0\x80", "show\xff", "\xffshow", "sh\x80ow", "show\x80", "step\xff0", "step \xff", "step 0\xff", "step \xff0", "step 0\xe2", "word 1\xc0\xb1", "\xc1\xb3how", "s\xcc\x82how", "\xef\xbd\x93how", "\xef\xbb\xbfshow", "show\xef\xbf\xbd", "\xef\xbf\xbd",
		"\x00", "show\x00", "\x00show", "sh\x00ow", "step\x00 0", "step 0\x00", "step \x000", "\n", "\r", "\r\n", "show\n", "show\r", "show\r\n", "\nshow", "step 0\n", "step 0\r", "step\n 0", "step \n0", "show\njudge", "show\nshow", "step 0\nstep 0", "judge\n",
		strings.Repeat(" ", 1<<16), "step " + strings.Repeat("0", 1<<16), "show" + strings.Repeat(" 0", 1<<14), strings.Repeat("show", 1<<14), "step 0" + strings.Repeat(" ", 1<<16),
	}
}

func allLines() []string {
	return slices.Concat(linesThatTurn(), linesThatAsk(), linesThatTellNothing(), linesThatAreNone())
}

// Of what is not MachineOk it is told that it is bad, whatever the line is.
func TestDeskOfWrongMachines(t *testing.T) {
	lines := append(allLines(), "steps 0 2001", "steps 0 999999", "step 3", "alone 9")
	for i, m := range append(wrongMachines(), impl.Machine{Time: -1}, impl.Machine{Threads: idle(20000)}) {
		checkMachineOk(t, "wrong", m, false)
		for j, line := range lines {
			if i < 9 || (i+j)%7 == 0 || len(line) < 2 {
				checkLine(t, m, line, m, "bad")
			}
		}
	}
	zero := impl.Machine{}
	for _, line := range []string{"", "#", "# x", "show", "judge", "word 0", "word 20", "step 0", "steps 0 2001", "fair 0", "alone 0", "x", "\xff"} {
		checkLine(t, zero, line, zero, "bad")
	}
}

func TestDeskOfLinesThatTellNothing(t *testing.T) {
	for _, m := range []impl.Machine{midway(), puts(t), endless(3), impl.Fair(puts(t), 200)} {
		for _, line := range linesThatTellNothing() {
			checkLine(t, m, line, m, "")
		}
	}
}

func TestDeskOfLinesThatAreNone(t *testing.T) {
	for _, m := range []impl.Machine{midway(), puts(t), endless(3), impl.Fair(puts(t), 200)} {
		for _, line := range linesThatAreNone() {
			checkLine(t, m, line, m, "what")
		}
	}
}

func TestDeskWord(t *testing.T) {
	list := entriesOf(2, 0, 6, 3, 2, 5)
	m := fitting(tableMem(rowsOf(5, 4, 0, 0, 2), laid{2: markOf(2, 7), 3: markOf(2, 7), 19: numOf(1000)}, impl.Desc{}, impl.Desc{Seq: 7, Status: impl.DcYes, List: list}), idle(2)...)
	checkMachineOk(t, "with marks", m, true)
	for line, want := range map[string]string{
		"word 0": "4", "word 1": "0", "word 2": "*1.7", "word 3": "*1.7", "word 5": "4", "word 7": "1", "word 10": "0", "word 11": "1", "word 12": "1", "word 13": "5", "word 15": "4", "word 17": "1", "word 18": "0", "word 19": "1000",
		"word 20": "none", "word 21": "none", "word 99": "none", "word 100": "none", "word 2000": "none", "word 999999": "none",
	} {
		checkLine(t, m, line, m, want)
	}
	for _, m := range append(someMachines(t), midway(), endless(4)) {
		for n := range 30 {
			checkDesk(t, m, fmt.Sprint("word ", n))
		}
	}
}

func TestDeskShow(t *testing.T) {
	m := newMachine(t, rowsOf(2, 5, 0, 0, 0), []impl.Op{opOf(impl.OpPut, 1, 3), opOf(impl.OpGet, 1, 0)}, nil)
	checkLine(t, m, "show", m, "5,0,0,0/2\n")
	m = runAll(t, m, 0)
	checkLine(t, m, "show", m, "5,0,0,0/2\n0 put 1 3: open\n")
	for m.Calls[0].Lin < 0 {
		m = runAll(t, m, 0)
	}
	checkLine(t, m, "show", m, "5,3,0,0/2\n0 put 1 3: open\n")
	m = impl.Fair(m, 100)
	checkLine(t, m, "show", m, "5,3,0,0/2\n0 put 1 3: done\n0 get 1: done 3\n")
	for _, m := range slices.Concat(someMachines(t), []impl.Machine{midway(), endless(3)}) {
		checkDesk(t, m, "show")
	}
}

func TestDeskJudge(t *testing.T) {
	good := impl.Fair(puts(t), 200)
	checkLine(t, good, "judge", good, "yes")
	checkLine(t, puts(t), "judge", puts(t), "yes")
	for name, turn := range map[string]func(*impl.Machine){
		"what may not come":  func(m *impl.Machine) { m.Calls[0].Res = resOf(4) },
		"other words":        func(m *impl.Machine) { m.Mem.Words[14].N++ },
		"not while asked":    func(m *impl.Machine) { m.Calls[m.Order[2]].End = m.Calls[m.Order[2]].Lin - 1 },
		"other rows at once": func(m *impl.Machine) { m.First.State++ },
	} {
		m := turned(good, turn)
		checkMachineOk(t, name, m, true)
		checkLine(t, m, "judge", m, "no")
	}
	told := map[string]int{}
	for _, m := range append(someMachines(t), midway(), good) {
		for i, turn := range spoils(m) {
			if i%3 == 0 {
				m := turned(m, turn)
				checkDesk(t, m, "judge")
				_, said := impl.DeskLine(m, "judge")
				told[said]++
			}
		}
	}
	if told["yes"] < 50 || told["no"] < 50 || told["bad"] < 50 {
		t.Errorf("told: %v", told)
	}
}

func TestDeskStep(t *testing.T) {
	m := newMachine(t, impl.RowsNew(), []impl.Op{opOf(impl.OpGet, 1, 0)}, []impl.Op{opOf(impl.OpScan, 0, 0)}, nil)
	for _, line := range []string{"step 2", "step 3", "step 4", "step 20", "step 999999"} {
		checkLine(t, m, line, m, "no")
	}
	for i, c := range []struct {
		line string
		told string
		time int
	}{
		{"step 0", "ok", 1}, {"step 1", "ok", 2}, {"step 2", "no", 2}, {"step 1", "ok", 3}, {"step 0", "ok", 4},
		// The first one has told all.
		{"step 0", "no", 4}, {"step 3", "no", 4}, {"step 1", "ok", 5}, {"step 10", "no", 5},
	} {
		want, told := deskTold(m, c.line)
		if told != c.told || want.Time != c.time {
			t.Fatalf("line %d, %q, is told as %v, %q", i, c.line, want, told)
		}
		m = checkLine(t, m, c.line, want, c.told)
	}
	late := at(endless(3), 99999)
	late = checkLine(t, late, "step 0", playTold(late, []int{0}), "ok")
	checkLine(t, late, "step 0", late, "no")
	// A step that would not leave the machine MachineOk.
	words := laid{10: numOf(2), 13: numOf(1)}
	refused := atWork(memOf(words, descOf(1000000, impl.DcNo), impl.Desc{}, impl.Desc{}), opOf(impl.OpPut, 1, 3), pairsOf(1, 0, 6, 0, 10, 2))
	checkRefused(t, "it tried as often as it can", refused, 0)
	checkLine(t, refused, "step 0", refused, "no")
}

// By a machine in which the first thread never gets done it is told how many steps were taken.
func TestDeskStepsByHowMany(t *testing.T) {
	m := endless(3)
	for _, n := range []int{0, 1, 2, 9, 10, 99, 1999, 2000} {
		want := playTold(m, slices.Repeat([]int{0}, n))
		if got := checkLine(t, m, fmt.Sprint("steps 0 ", n), want, "ok"); got.Time != 30+n {
			t.Errorf("steps 0 %d: the time %d", n, got.Time)
		}
		for _, none := range []int{3, 4, 9, 1000, 999999} {
			checkLine(t, m, fmt.Sprint("steps ", none, " ", n), m, "ok")
		}
		// The others have nothing to do.
		checkLine(t, m, fmt.Sprint("steps 2 ", n), m, "ok")
	}
	for _, n := range []int{2001, 2002, 3000, 9999, 10000, 100000, 999999} {
		for _, who := range []int{0, 2, 3, 999999} {
			checkLine(t, m, fmt.Sprint("steps ", who, " ", n), m, "what")
		}
	}
	two := newMachine(t, impl.RowsNew(), manyOps(1), manyOps(2))
	got := checkDesk(t, two, "steps 1 3")
	if len(got.Calls) != 1 || got.Calls[0].T != 1 || got.Time != 3 {
		t.Errorf("steps 1 3: %v", got)
	}
	late := at(m, 99990)
	if got := checkDesk(t, late, "steps 0 2000"); got.Time != 100000 {
		t.Errorf("steps 0 2000: the time %d", got.Time)
	}
}

// blocked has two threads of which the first one never gets done: the try of each has a mark in the way of the other's.
func blocked() impl.Machine {
	list := entriesOf(1, 51, 61, 5, 55, 65)
	descs := []impl.Desc{{Seq: 3, Status: impl.DcOpen, List: list}, {Seq: 4, Status: impl.DcOpen, List: list}}
	return fitting(memOf(laid{1: markOf(2, 4), 5: markOf(1, 3)}, descs...), impl.Thread{Ops: manyOps(2), On: true, Stack: []impl.Help{helpOf(0, 3, 0, 0)}}, impl.Thread{})
}

func TestDeskAlone(t *testing.T) {
	for threads, m := range map[int]impl.Machine{2: blocked(), 3: endless(3), 4: endless(4)} {
		if got := checkDesk(t, m, "alone 0"); got.Time != 30+400*threads {
			t.Errorf("alone 0, with %d threads: the time %d", threads, got.Time)
		}
		// One that is none, and one that is done.
		for _, line := range []string{"alone 1", "alone 4", "alone 5", "alone 2000", "alone 999999"} {
			checkLine(t, m, line, m, "ok")
		}
	}
	m := newMachine(t, impl.RowsNew(), []impl.Op{opOf(impl.OpPut, 1, 3), opOf(impl.OpGet, 1, 0)}, []impl.Op{opOf(impl.OpScan, 0, 0)})
	// Each time it goes on till one op is told, wherever it begins.
	m = checkDesk(t, impl.Play(m, []int{0, 0, 0}), "alone 0")
	if m.Time != 15 || m.Threads[0].Pc != 1 || m.Threads[0].On || len(m.Calls) != 1 {
		t.Fatalf("alone 0: %v", m)
	}
	m = checkDesk(t, m, "alone 0")
	if m.Time != 17 || m.Threads[0].Pc != 2 || m.Threads[1].On {
		t.Fatalf("alone 0: %v", m)
	}
	checkLine(t, m, "alone 0", m, "ok")
	if m = checkDesk(t, m, "alone 1"); !impl.Finished(m) {
		t.Fatalf("alone 1: %v", m)
	}
}

func TestDeskFair(t *testing.T) {
	m := endless(3)
	for _, n := range []int{0, 1, 2, 10, 1999, 2000, 2001, 2002, 10000, 999999} {
		if got := checkLine(t, m, fmt.Sprint("fair ", n), fairTold(m, n), "ok"); got.Time != 30+min(n, 2000) {
			t.Errorf("fair %d: the time %d", n, got.Time)
		}
	}
	m = puts(t)
	for n := range 60 {
		checkDesk(t, m, fmt.Sprint("fair ", n))
	}
	done := checkDesk(t, m, "fair 999999")
	if !impl.Finished(done) {
		t.Errorf("fair 999999: %v", done)
	}
	checkLine(t, done, "fair 7", done, "ok")
}

func TestDeskOfAllLinesAndMachines(t *testing.T) {
	lines := allLines()
	for i, m := range append(someMachines(t), midway(), puts(t), blocked()) {
		for j, line := range lines {
			if (i+j)%5 == 0 {
				checkDesk(t, m, line)
			}
		}
	}
}

// Numbers of each length, with and without noughts ahead, in each place.
func TestDeskNumbers(t *testing.T) {
	m, nums := midway(), []string{"", "0", "00", "000000", "0000000"}
	for _, n := range []int{1, 2, 3, 4, 9, 10, 19, 20, 21, 99, 100, 999, 1000, 2000, 2001, 9999, 99999, 100000, 999999, 1000000, 9999999, 10000000} {
		for _, ahead := range []string{"", "0", "00", "+", "-", " "} {
			nums = append(nums, ahead+strconv.Itoa(n))
		}
	}
	for _, a := range nums {
		for _, name := range []string{"step", "alone", "fair", "word", "steps", "show", "judge", ""} {
			checkDesk(t, m, name+" "+a)
		}
		for _, b := range nums {
			checkDesk(t, m, "steps "+a+" "+b)
		}
	}
}

// Each line with a byte taken away, put in, or turned, whichever byte that is.
func TestDeskOfEveryLineNear(t *testing.T) {
	m := newMachine(t, impl.RowsNew(), []impl.Op{opOf(impl.OpGet, 1, 0)}, nil)
	lines := map[string]bool{}
	for _, line := range []string{"step 0", "steps 0 2", "alone 0", "fair 2", "word 13", "show", "judge", "#", "# x"} {
		for i := range len(line) + 1 {
			head, tail := line[:i], line[i:]
			for b := range 256 {
				lines[head+string([]byte{byte(b)})+tail] = true
				if tail != "" {
					lines[head+string([]byte{byte(b)})+tail[1:]] = true
				}
			}
			if tail != "" {
				lines[head+tail[1:]] = true
			}
			for _, other := range []string{"\xc2\xa0", "\xe2\x80\xa8", "\xef\xbf\xbd", "\xf0\x9f\x98\x80", "  ", "\r\n"} {
				lines[head+other+tail] = true
			}
		}
	}
	for line := range lines {
		checkDesk(t, m, line)
	}
	if len(lines) < 20000 {
		t.Errorf("%d lines", len(lines))
	}
}

func checkLinesFrom(t *testing.T, m impl.Machine, line string, pieces []string, room int) {
	t.Helper()
	checkDesk(t, m, line)
	if room == 0 {
		return
	}
	for _, piece := range pieces {
		checkLinesFrom(t, m, line+piece, pieces, room-1)
	}
}

// All that can be put together of a few pieces.
func TestDeskOfPieces(t *testing.T) {
	m := newMachine(t, impl.RowsNew(), []impl.Op{opOf(impl.OpGet, 1, 0)}, nil)
	checkLinesFrom(t, m, "", []string{" ", "step", "s", "0", "13", "word", "#", "show", "\n"}, 4)
	checkLinesFrom(t, m, "step", []string{" ", "s", "0", "1", "-"}, 6)
}

// From each state that small crowds can be in: what asks turns nothing, and any line leaves the machine right.
func TestDeskWhoeverGoesOnWhen(t *testing.T) {
	inEachCrowd(t, func(t *testing.T, m impl.Machine) {
		r, _ := impl.Replay(m)
		checkLine(t, m, "judge", m, "yes")
		checkLine(t, m, "show", m, machineShown(m))
		checkLine(t, m, "# show", m, "")
		checkLine(t, m, "shows", m, "what")
		place := m.Time % 20
		checkLine(t, m, fmt.Sprint("word ", place), m, wordShown(m.Mem.Words[place]))
		who := m.Time % len(m.Threads)
		next := checkDesk(t, m, fmt.Sprint("step ", who))
		checkDesk(t, m, fmt.Sprint("steps ", who, " ", m.Time%30))
		for _, line := range []string{fmt.Sprint("alone ", who), "fair 3", "fair 200"} {
			if then, _ := impl.DeskLine(m, line); !impl.MachineOk(then) || !impl.JudgeAll(then) {
				t.Fatalf("%q leaves %v as %v", line, m, then)
			}
		}
		if after, _ := impl.Replay(next); len(next.Order) == len(m.Order) && !rowsSame(r, after) {
			t.Fatalf("the rows %v are %v, and nothing was so", r, after)
		}
	})
}

type sessionByHand struct {
	progs string
	lines string
	said  string
	n     int
}

// sessionsByHand has what was worked out by hand: a put takes 15 steps, of which the tenth is the one by which it is so, and a get takes two.
func sessionsByHand() []sessionByHand {
	return []sessionByHand{
		{"put 1 3;get 1", "", "", 0},
		{"put 1 3;get 1", "show", "0,0,0,0/0\n\n", 1},
		{"put 1 3;get 1", "step 0\nshow\n", "ok\n0,0,0,0/0\n0 put 1 3: open\n\n", 2},
		{"put 1 3;get 1", "steps 0 10\nshow\nword 1\nword 0\nword 6\nword 10\nword 13\nword 16\nword 20\n", "ok\n0,3,0,0/0\n0 put 1 3: open\n\n*0.1\n0\n*0.1\n*0.1\n*0.1\n0\nnone\n", 9},
		{"put 1 3;get 1", "steps 0 11\nword 1\nword 6\nword 10\nsteps 0 3\nword 6\nword 10\nword 13\nword 16\nshow", "ok\n3\n*0.1\n*0.1\nok\n2\n1\n0\n0\n0,3,0,0/0\n0 put 1 3: open\n\n", 10},
		{"put 1 3;get 1", "steps 0 9\nword 1\nshow\nstep 0\nshow", "ok\n*0.1\n0,0,0,0/0\n0 put 1 3: open\n\nok\n0,3,0,0/0\n0 put 1 3: open\n\n", 5},
		{"put 1 3;get 1", "alone 0\nshow\nalone 0\nshow\nstep 0\nalone 0\njudge", "ok\n0,3,0,0/0\n0 put 1 3: done\n\nok\n0,3,0,0/0\n0 put 1 3: done\n0 get 1: done 3\n\nno\nok\nyes\n", 7},
		// What was begun later goes on alone: it helps who was stopped, and comes too late.
		{"put 1 3/put 2 3", "steps 0 9\nalone 1\nshow\nalone 0\nshow\njudge\n", "ok\nok\n0,3,0,0/0\n0 put 1 3: open\n1 put 2 3: taken\n\nok\n0,3,0,0/0\n0 put 1 3: done\n1 put 2 3: taken\n\nyes\n", 6},
		{"get 0/get 1/get 2/get 3", "fair 1\nshow\nfair 1\nshow\nfair 1\nstep 3", "ok\n0,0,0,0/0\n0 get 0: open\n1 get 1: open\n2 get 2: open\n3 get 3: open\n\nok\n0,0,0,0/0\n0 get 0: none\n1 get 1: none\n2 get 2: none\n3 get 3: none\n\nok\nno\n", 6},
		{"open;make;make;make;make;via 6/put 3 6", "step 1\nstep 0\nalone 0\nalone 0\nalone 1\nfair 2000\nshow\nword 13\nword 19", "ok\nok\nok\nok\nok\nok\n0,0,0,6/5\n1 put 3 6: done\n0 open: done\n0 make: done\n0 make: done\n0 make: done\n0 make: done\n0 via 6: done 3\n\n5\n4\n", 9},
		// Lines that tell nothing, and such as are none.
		{"get 1", "\n", "", 1}, {"get 1", "\n\n", "", 2}, {"get 1", "#", "", 1}, {"get 1", "#\n", "", 1}, {"get 1", "#\n\n# x\n", "", 3}, {"get 1", "\n\nshow\n\n", "0,0,0,0/0\n\n", 4},
		{"get 1", " ", "what\n", 1}, {"get 1", " \n", "what\n", 1}, {"get 1", "what", "what\n", 1}, {"get 1", "\nx\n\ny", "what\nwhat\n", 4}, {"get 1", "step\nstep 01\nsteps 0 2001\nfair -1\nword  1\n # x\nShow\nshow", "what\nwhat\nwhat\nwhat\nwhat\nwhat\nwhat\n0,0,0,0/0\n\n", 8},
		{"get 1", "show\r\nshow\rshow\nshow\x00\n\r\n", "what\nwhat\nwhat\nwhat\n", 4},
		// Bytes that are no text take no byte 10 with them, and nothing else ends a line.
		{"get 1", "\xff\n\xe2\n\xe2\x80\n\xf0\x9f\n#\xff\nshow\xc3\nshow", "what\nwhat\nwhat\nwhat\nwhat\n0,0,0,0/0\n\n", 7},
		{"get 1", "show\xc0\x8ashow", "what\n", 1}, {"get 1", "show\xe2\x80\xa8show\xc2\x85show\v\fshow\xc4\x8ashow", "what\n", 1}, {"get 1", "#\xff\n\xff#", "what\n", 2},
	}
}

func TestSessionsByHand(t *testing.T) {
	for _, c := range sessionsByHand() {
		checkSession(t, c.progs, c.lines, c.said, c.n)
		if said, n := sessionTold(c.progs, c.lines); said != c.said || n != c.n {
			t.Errorf("Session(%q, %q) is told as %q, %d, and by hand as %q, %d", c.progs, c.lines, said, n, c.said, c.n)
		}
	}
}

func TestSessionOfPrograms(t *testing.T) {
	eight, nine := strings.Repeat("scan;", 7)+"scan", strings.Repeat("scan;", 8)+"scan"
	for _, progs := range []string{
		// The empty text has one program, which is empty.
		"", "/", "//", "///", "scan", "scan/", "/scan", "scan//scan", "scan///scan", "/scan/", "//scan/", "get 1/get 2/get 3/get 0", eight, eight + "/" + eight + "/" + eight + "/" + eight, "/" + eight, "put 1 3;scan/put 2 3",
	} {
		checkSession(t, progs, "", "", 0)
		checkSession(t, progs, "# x\n", "", 1)
		checkSession(t, progs, "show", "0,0,0,0/0\n\n", 1)
		lines := "judge\nfair 2000\nshow\njudge\n"
		for who := range 6 {
			lines += fmt.Sprintf("step %d\nalone %d\nsteps %d 1\n", who, who, who)
		}
		want, _ := sessionTold(progs, lines)
		checkSession(t, progs, lines, want, 22)
		ops := strings.FieldsFunc(progs, func(r rune) bool { return r == '/' || r == ';' })
		if strings.Count(want, ": ") != len(ops) || strings.Contains(want, ": open\n") {
			t.Errorf("of %q %q is told", progs, want)
		}
	}
	for _, progs := range []string{
		// One thread more than there can be, one op more, and programs that are none.
		"////", "/////", "scan////", "////scan", "scan/scan/scan/scan/scan", "get 1/get 2/get 3/get 0/", eight + "/" + eight + "/" + eight + "/" + eight + "/" + eight, strings.Repeat("/", 1<<16),
		nine, nine + "/scan", "scan/" + nine, "///" + nine, eight + ";", ";" + eight,
		"x", "x/scan", "scan/x", "scan/x/scan", "///x", "x////", "////x", ";", ";/", "/;", "scan;", "scan;/scan", "scan/;scan", "scan;;scan", "none", "none/scan", " ", "/ ", " /", "scan /scan", "scan/ scan", "get 01", "get 4", "get -1", "put 1", "put/1/3", "put 1/3", "put 1 3;/put 2 3", "Scan", "scan\n", "scan\n/scan", "\n", "scan\x00", "\xff", "scan/\xff", "scan\\scan", "scan|scan", "scan\xc0\xafscan", "scan\xef\xbc\x8fscan", "#", "# x",
	} {
		for _, lines := range []string{"", "show", "\n", "x", strings.Repeat("show\n", 60)} {
			checkSession(t, progs, lines, "", -1)
		}
	}
}

func TestSessionOfHowManyLines(t *testing.T) {
	for n := range 130 {
		want, many := n, n+1
		if n > 60 {
			want = -2
		}
		if many > 60 {
			many = -2
		}
		for line, told := range map[string]string{"": "", "#": "", "x": "what\n", "step 1": "no\n", "word 0": "0\n"} {
			lines, said := strings.Repeat(line+"\n", n), strings.Repeat(told, n)
			if want < 0 {
				said = ""
			}
			checkSession(t, "scan", lines, said, want)
			// Without a byte 10 behind the last one, there are as many, if that is not empty.
			if line != "" {
				checkSession(t, "scan", strings.TrimSuffix(lines, "\n"), said, want)
			}
			// One more, without a byte 10 behind it.
			said += "what\n"
			if many < 0 {
				said = ""
			}
			checkSession(t, "scan", lines+"y", said, many)
		}
	}
	for _, lines := range []string{strings.Repeat("\n", 1<<20), strings.Repeat("x\n", 1<<18), strings.Repeat("\n", 60) + "#", strings.Repeat("#\n", 61), strings.Repeat("show\n", 60) + "\n"} {
		checkSession(t, "scan", lines, "", -2)
		checkSession(t, "", lines, "", -2)
		// Where a program is none, or there are too many threads, too, that counts.
		for _, progs := range []string{"x", "scan;", "////", "x////", strings.Repeat("scan;", 8) + "scan"} {
			checkSession(t, progs, lines, "", -1)
		}
	}
	// One line is as long as any.
	checkSession(t, "scan", "#"+strings.Repeat("x", 1<<20), "", 1)
	checkSession(t, "scan", strings.Repeat("x", 1<<20), "what\n", 1)
	checkSession(t, "scan", strings.Repeat(" ", 1<<16)+"\nshow", "what\n0,0,0,0/0\n\n", 2)
}

// anyProgs has programs that look like any, of so many threads.
func anyProgs(d *dice, threads int) string {
	texts := slices.Sorted(maps.Keys(opTexts()))
	progs := make([]string, threads)
	for i := range progs {
		ops := []string{}
		for range d.roll(9) {
			ops = append(ops, texts[d.roll(len(texts))])
		}
		progs[i] = strings.Join(ops, ";")
	}
	return strings.Join(progs, "/")
}

// anyLines has so many lines that look like any, none with a byte 10 in it.
func anyLines(d *dice, many int) []string {
	turn, rest := []string{"step 0", "step 1", "step 2", "step 3", "steps 0 3", "steps 1 9", "steps 2 17", "alone 1", "fair 2", "fair 11"}, allLines()
	list := []string{}
	for range many {
		line := turn[d.roll(len(turn))]
		if d.roll(3) == 0 {
			line = rest[d.roll(len(rest))]
		}
		if d.roll(4) == 0 {
			line = []string{"show", "judge", fmt.Sprint("word ", d.roll(22)), "# x", ""}[d.roll(5)]
		}
		// One that is more lines than one, or too long to be shown where it fails.
		if strings.Contains(line, "\n") || len(line) > 1000 {
			line = "x"
		}
		list = append(list, line)
	}
	return list
}

// A session tells what DeskLine tells, line by line, each with a byte 10 behind it, and its count is how many lines there were.
func TestSessionIsItsLines(t *testing.T) {
	d, told := dice(91), map[string]int{}
	for i := range 150 {
		progs, list := anyProgs(&d, 1+i%4), anyLines(&d, 1+i%60)
		m, is := progsTold(progs)
		if !is {
			t.Fatalf("%q is no program", progs)
		}
		said := ""
		for _, line := range list {
			next := checkDesk(t, m, line)
			_, text := impl.DeskLine(m, line)
			if text != "" {
				said += text + "\n"
			}
			if !impl.JudgeAll(next) {
				t.Fatalf("%q leaves %v as %v", line, m, next)
			}
			if slices.Contains(linesThatAsk(), line) && !machineSame(m, next) {
				t.Fatalf("%q turns %v into %v", line, m, next)
			}
			m = next
			told[text]++
		}
		lines := strings.Join(list, "\n") + "\n"
		checkSession(t, progs, lines, said, len(list))
		if list[len(list)-1] != "" {
			checkSession(t, progs, strings.TrimSuffix(lines, "\n"), said, len(list))
		}
	}
	for _, text := range []string{"ok", "no", "what", "", "yes", "none", "0", "1"} {
		if told[text] < 5 {
			t.Errorf("%q was told %d times only", text, told[text])
		}
	}
	if told["bad"] > 0 || len(told) < 120 {
		t.Errorf("%d texts, %d times bad", len(told), told["bad"])
	}
}

// A session that asks between its lines gets to where one gets that does not.
func TestSessionsThatAsk(t *testing.T) {
	d, ask := dice(92), linesThatAsk()
	for i := range 16 {
		progs, turn, both := anyProgs(&d, 1+i%4), []string{}, []string{}
		for range 14 {
			line := linesThatTurn()[d.roll(11)]
			turn, both = append(turn, line), append(both, line)
			for range d.roll(4) {
				both = append(both, ask[d.roll(len(ask))])
			}
		}
		end := func(lines []string) string {
			m, _ := progsTold(progs)
			for _, line := range lines {
				m, _ = impl.DeskLine(m, line)
			}
			return impl.MachineText(m)
		}
		if end(turn) != end(both) {
			t.Fatalf("%q of %q ends at %q, %q at %q", turn, progs, end(turn), both, end(both))
		}
		// At most 56 lines are made here, and one to show it.
		said, n := impl.Session(progs, strings.Join(append(both, "show"), "\n"))
		if n != len(both)+1 || !strings.HasSuffix(said, end(turn)+"\n") {
			t.Fatalf("%q of %q tells %q, %d", both, progs, said, n)
		}
	}
}

// Nothing is written into a machine that is handed in, nor into the spare room behind its lists; what is answered shares none with it, and no two lists of it share any, also where it is answered as it was.
func TestDeskSharesNothing(t *testing.T) {
	lines := []string{"", "#", "show", "judge", "word 1", "word 20", "step 0", "step 2", "step 7", "steps 1 0", "steps 0 9", "steps 0 2001", "alone 1", "alone 7", "fair 0", "fair 4", "x", "step 00"}
	for i, m := range someMachines(t) {
		one := withOneList(m)
		for j, line := range lines {
			if i > 4 && (i+j)%5 > 0 {
				continue
			}
			checkSpansApart(t, fmt.Sprintf("%q to machine %d", line, i), func(look func([]span)) asked {
				given := roomyMachine(m)
				look(spansOf(given))
				got, _ := impl.DeskLine(given, line)
				return asked{spansOf(given), spansOf(got)}
			})
			checkSpansApart(t, fmt.Sprintf("%q to machine %d of one list", line, i), func(look func([]span)) asked {
				look(nil)
				got, _ := impl.DeskLine(one, line)
				return asked{nil, spansOf(got)}
			})
		}
	}
}

// What stands behind lists does not count, and texts stay as they were.
func TestDeskLeavesTextsAsTheyWere(t *testing.T) {
	for i, m := range someMachines(t) {
		for j, line := range allLines() {
			if (i+j)%5 > 0 || len(line) > 1000 {
				continue
			}
			given := strings.Clone(line)
			want, told := deskTold(m, line)
			got, said := impl.DeskLine(roomyMachine(m), given)
			if said != told || !machineSame(got, want) || given != line || sharesBytes(said, given) {
				t.Fatalf("DeskLine(%v, %q) = %v, %q with room, and the line is %q", m, line, got, said, given)
			}
		}
	}
	for _, c := range sessionsByHand() {
		progs, lines := strings.Clone(c.progs), strings.Clone(c.lines)
		said, _ := impl.Session(progs, lines)
		if progs != c.progs || lines != c.lines || sharesBytes(said, lines) || sharesBytes(said, progs) {
			t.Errorf("of %q and %q came %q and %q", c.progs, c.lines, progs, lines)
		}
	}
}

// deskCalls has of each function of the chapter what it answers, as one text; deskCallsTold has the same by hand. Neither needs another call of the program.
func deskCalls() map[string]func() string {
	return map[string]func() string{
		"DeskLine": func() string {
			told := ""
			m := impl.Machine{Mem: tableMem(rowsOf(2, 5, 0, 0, 0), nil, impl.Desc{}, impl.Desc{}), Threads: []impl.Thread{{Ops: []impl.Op{opOf(impl.OpPut, 1, 3)}}, {}}, First: rowsOf(2, 5, 0, 0, 0)}
			for _, line := range []string{"word 0", "show", "step 0", "steps 0 9", "show", "#", "step 1", "word 1", "word 20", "x", "alone 0", "fair 1", "judge", "show"} {
				then, said := impl.DeskLine(m, line)
				told += fmt.Sprintf("%s|%d|", said, then.Time)
				m = then
			}
			_, said := impl.DeskLine(impl.Machine{}, "show")
			return told + said
		},
		"Session": func() string {
			told := ""
			for _, c := range sessionsByHand() {
				said, n := impl.Session(c.progs, c.lines)
				told += fmt.Sprint(said, n, "|")
			}
			return told
		},
	}
}

func deskCallsTold() map[string]string {
	sessions := ""
	for _, c := range sessionsByHand() {
		sessions += fmt.Sprint(c.said, c.n, "|")
	}
	return map[string]string{
		"DeskLine": "5|0|5,0,0,0/2\n|0|ok|1|ok|10|5,3,0,0/2\n0 put 1 3: open\n|10||10|no|10|*0.1|10|none|10|what|10|ok|15|ok|15|yes|15|5,3,0,0/2\n0 put 1 3: done\n|15|bad",
		"Session":  sessions,
	}
}

// Nothing is kept: the same is answered whatever was asked meanwhile, also where many ask at once.
func TestDeskAnswersTheSameAtEachCall(t *testing.T) {
	want, calls := deskCallsTold(), deskCalls()
	machines, lines := someMachines(t), append(linesThatTurn()[:10], "show", "judge", "word 1", "#", "x")
	var all sync.WaitGroup
	for range 8 {
		all.Go(func() {
			for range 5 {
				for name, call := range calls {
					if got := call(); got != want[name] {
						t.Errorf("%s answers\n%s\nnot\n%s", name, got, want[name])
					}
				}
			}
			for i, m := range machines {
				line := lines[i%len(lines)]
				then, told := deskTold(m, line)
				if got, said := impl.DeskLine(m, line); said != told || !machineSame(got, then) {
					t.Errorf("machine %d: DeskLine(%v, %q) = %v, %q", i, m, line, got, said)
				}
			}
		})
	}
	all.Wait()
}

func TestDeskAheadOfAnyOtherCall(t *testing.T) {
	checkEachCalledFirst(t, deskCalls(), deskCallsTold())
}

// When a line is answered nobody is left who works at it.
func TestDeskLeavesNobodyBehind(t *testing.T) {
	before := runtime.NumGoroutine()
	for _, m := range someMachines(t) {
		for _, line := range allLines() {
			if len(line) < 12 {
				impl.DeskLine(m, line)
			}
		}
	}
	// Who has said that it is over may still be on its way out.
	for range 1000 {
		if runtime.NumGoroutine() <= before {
			return
		}
		time.Sleep(time.Millisecond)
	}
	t.Errorf("%d goroutines, %d before", runtime.NumGoroutine(), before)
}
