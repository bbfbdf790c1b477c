package impl

import (
	"strconv"
	"strings"
)

const (
	MaxText = 60
	MaxTime = 1000000
)

const maxToken = 20

const (
	upperByte = iota
	smallByte
	digitByte
	dashByte
	blankByte
	commaByte
	markByte
	otherByte
)

// byteTest takes a rune rather than a byte: a range over a text of any bytes
// tells each byte below 128 as itself, and no other byte as one of these, so
// that nothing is lost by it.
type byteTest func(r rune) bool

func isUpper(r rune) bool { return 'A' <= r && r <= 'Z' }

func isSmall(r rune) bool { return 'a' <= r && r <= 'z' }

func isDigit(r rune) bool { return '0' <= r && r <= '9' }

func isDash(r rune) bool { return r == '-' }

func isBlank(r rune) bool { return r == ' ' }

func isComma(r rune) bool { return r == ',' }

func isShown(r rune) bool { return 32 <= r && r <= 126 }

// byteTests has the widest test last, so that only what no other one takes is
// a mark.
func byteTests() [otherByte]byteTest {
	return [otherByte]byteTest{
		upperByte: isUpper,
		smallByte: isSmall,
		digitByte: isDigit,
		dashByte:  isDash,
		blankByte: isBlank,
		commaByte: isComma,
		markByte:  isShown,
	}
}

func classOf(r rune) int {
	for class, test := range byteTests() {
		if test(r) {
			return class
		}
	}
	return otherByte
}

func isTokenRune(r rune) bool {
	switch classOf(r) {
	case smallByte, digitByte, dashByte:
		return true
	}
	return false
}

func isValueRune(r rune) bool { return classOf(r) != otherByte }

func allRunes(s string, test byteTest) bool {
	for _, r := range s {
		if !test(r) {
			return false
		}
	}
	return true
}

func Lower(s string) string {
	small := []byte(s)
	for i, r := range s {
		if classOf(r) == upperByte {
			small[i] += 'a' - 'A'
		}
	}
	return string(small)
}

func Trim(s string) string {
	first, end := len(s), len(s)
	for i, r := range s {
		if classOf(r) != blankByte {
			first = i
			break
		}
	}
	for end > first && s[end-1] == ' ' {
		end--
	}
	// A piece of s would share its memory.
	return strings.Clone(s[first:end])
}

func TokenOk(s string) bool {
	return 1 <= len(s) && len(s) <= maxToken && allRunes(s, isTokenRune)
}

func ValueOk(s string) bool {
	if len(s) < 1 || len(s) > MaxText || s[0] == ' ' || s[len(s)-1] == ' ' {
		return false
	}
	return allRunes(s, isValueRune)
}

func NumRead(s string) (int, bool) {
	if s == "" || len(s) > 1 && s[0] == '0' {
		return 0, false
	}
	n := 0
	for _, r := range s {
		if classOf(r) != digitByte {
			return 0, false
		}
		n = n*10 + int(r-'0')
		// Asked at each digit, so that a long text can't wrap round.
		if n > MaxTime {
			return 0, false
		}
	}
	return n, true
}

func NumText(n int) string {
	if n < 0 || n > MaxTime {
		return ""
	}
	return strconv.Itoa(n)
}

func Split(s string) []string {
	var parts []string
	from := 0
	for i, r := range s {
		if classOf(r) == commaByte {
			parts = appendPart(parts, s[from:i])
			from = i + 1
		}
	}
	return appendPart(parts, s[from:])
}

func appendPart(parts []string, raw string) []string {
	part := Trim(raw)
	if part == "" {
		return parts
	}
	return append(parts, part)
}
