package impl

import (
	"strconv"
	"strings"
)

// numberDigits is how many digits the greatest accepted number, 999999, has: any text of that many is within the limit.
const numberDigits = 6

// Digits answers n in decimal digits, with a - ahead of a number below 0.
func Digits(n int) string {
	return strconv.Itoa(n)
}

// Number answers the number from 0 to 999999 of which s is Digits, and true; 0 and false of every other text.
func Number(s string) (int, bool) {
	defer func() {
		// A panic comes ahead of the return, so both results are still zero, as they are to be.
		recover()
	}()
	n := mustNumber(s)
	return n, true
}

func mustNumber(s string) int {
	if len(s) == 0 || len(s) > numberDigits {
		panic("a number has 1 to 6 digits")
	}
	if s[0] == '0' && len(s) > 1 {
		panic("a number has no nought ahead")
	}
	n := 0
	for i := 0; i < len(s); i++ {
		n = 10*n + mustDigit(s[i])
	}
	return n
}

func mustDigit(b byte) int {
	if b < '0' || b > '9' {
		panic("a number has nothing but digits")
	}
	return int(b - '0')
}

// Split answers what stands between the bytes by of s, in order; the empty text has one part, which is empty.
func Split(s string, by byte) []string {
	var parts []string
	for {
		i := strings.IndexByte(s, by)
		if i < 0 {
			return append(parts, strings.Clone(s))
		}
		// A part is cloned so that it shares no memory with s.
		parts = append(parts, strings.Clone(s[:i]))
		s = s[i+1:]
	}
}

// NumsText answers the Digits of each number of list, with a comma between.
func NumsText(list []int) string {
	texts := make([]string, len(list))
	for i, n := range list {
		texts[i] = Digits(n)
	}
	return strings.Join(texts, ",")
}
