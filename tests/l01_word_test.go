package tests

import (
	"math"
	"slices"
	"strconv"
	"strings"
	"testing"
	"unsafe"

	"loop.example/g00239/impl"
)

func lowerByBytes(s string) string {
	out := []byte(s)
	for i, b := range out {
		if b >= 65 && b <= 90 {
			out[i] = b + 32
		}
	}
	return string(out)
}

func TestLower(t *testing.T) {
	for _, c := range [][2]string{
		{"", ""}, {"Max-AGE", "max-age"}, {"AZaz", "azaz"}, {"@[`{", "@[`{"}, {"A\u00c4B", "a\u00c4b"}, {"\xffA\xc3Z", "\xffa\xc3z"},
	} {
		if got := impl.Lower(c[0]); got != c[1] {
			t.Errorf("Lower(%q) = %q, not %q", c[0], got, c[1])
		}
	}
	for _, s := range oddTexts() {
		if got, want := impl.Lower(s), lowerByBytes(s); got != want {
			t.Fatalf("Lower(%q) = %q, not %q", s, got, want)
		}
	}
}

func TestTrim(t *testing.T) {
	for _, c := range [][2]string{
		{"", ""}, {" ", ""}, {"      ", ""}, {"a", "a"}, {"  a b ", "a b"}, {"a  ", "a"}, {"   a", "a"}, {" a  b", "a  b"},
		{" \ta\n ", "\ta\n"}, {"\u00a0 a \u00a0", "\u00a0 a \u00a0"}, {" \xc3 ", "\xc3"}, {" \x00 ", "\x00"}, {" \u00e4 ", "\u00e4"},
	} {
		if got := impl.Trim(c[0]); got != c[1] {
			t.Errorf("Trim(%q) = %q, not %q", c[0], got, c[1])
		}
	}
	for _, s := range oddTexts() {
		if got, want := impl.Trim(s), strings.Trim(s, " "); got != want {
			t.Fatalf("Trim(%q) = %q, not %q", s, got, want)
		}
	}
}

func isTokenByte(b byte) bool {
	return strings.IndexByte("abcdefghijklmnopqrstuvwxyz0123456789-", b) >= 0
}

func isValueByte(b byte) bool { return b >= 32 && b <= 126 }

func TestTokenOk(t *testing.T) {
	if impl.TokenOk("") {
		t.Error("the empty text is no token")
	}
	for n := 1; n <= 100; n++ {
		if got := impl.TokenOk(strings.Repeat("a", n)); got != (n <= 20) {
			t.Errorf("TokenOk of %d bytes = %v", n, got)
		}
	}
	for _, s := range []string{"max-age", "-", "--", "0", "if-none-match", "abcdefghijklmnopqrst", "uvwxyz-0123456789"} {
		if !impl.TokenOk(s) {
			t.Errorf("TokenOk(%q) is false", s)
		}
	}
	for _, s := range []string{"A", "aB", " a", "a ", "a b", "*", "a,b", "a_b", "a:", "a=1", "\u00e4", "a\n", strings.Repeat("\u00e4", 11)} {
		if impl.TokenOk(s) {
			t.Errorf("TokenOk(%q) is true", s)
		}
	}
}

func TestTokenOkByByte(t *testing.T) {
	for _, b := range singleBytes() {
		for _, s := range []string{b, b + "aa", "a" + b + "a", "aa" + b, strings.Repeat("a", 19) + b} {
			if got := impl.TokenOk(s); got != isTokenByte(b[0]) {
				t.Errorf("TokenOk(%q) = %v", s, got)
			}
		}
	}
	for _, s := range oddTexts() {
		want := s != "" && strings.IndexFunc(s, func(r rune) bool { return r > 127 || !isTokenByte(byte(r)) }) < 0
		if got := impl.TokenOk(s); got != want {
			t.Fatalf("TokenOk(%q) = %v", s, got)
		}
	}
}

func TestValueOk(t *testing.T) {
	for n := 0; n <= 200; n++ {
		if got := impl.ValueOk(strings.Repeat("a", n)); got != (1 <= n && n <= impl.MaxText) {
			t.Errorf("ValueOk of %d bytes = %v", n, got)
		}
	}
	for n := 1; n <= impl.MaxText+1; n++ {
		if impl.ValueOk(strings.Repeat(" ", n)) {
			t.Errorf("ValueOk of %d blanks is true", n)
		}
	}
	for _, s := range []string{"a b", "a  b", "!", "~", "max-age=3, no-store", "\"x\"", "A" + strings.Repeat(" ", impl.MaxText-2) + "Z"} {
		if !impl.ValueOk(s) {
			t.Errorf("ValueOk(%q) is false", s)
		}
	}
	for _, s := range []string{" a", "a ", " a ", "a\n", "\ta", "a\x00b", "\x7f", "\u00e4", "a\u00a0b", "a\xff", "A" + strings.Repeat(" ", impl.MaxText-1) + "Z"} {
		if impl.ValueOk(s) {
			t.Errorf("ValueOk(%q) is true", s)
		}
	}
}

func TestValueOkByByte(t *testing.T) {
	for _, b := range singleBytes() {
		for _, s := range []string{b, b + "aa", "aa" + b, strings.Repeat("a", impl.MaxText-1) + b} {
			if got := impl.ValueOk(s); got != (isValueByte(b[0]) && b != " ") {
				t.Errorf("ValueOk(%q) = %v", s, got)
			}
		}
		if got := impl.ValueOk("a" + b + "a"); got != isValueByte(b[0]) {
			t.Errorf("ValueOk(%q) = %v", "a"+b+"a", got)
		}
	}
	for _, s := range oddTexts() {
		want := s != "" && strings.Trim(s, " ") == s && strings.IndexFunc(s, func(r rune) bool { return r < 32 || r > 126 }) < 0
		if got := impl.ValueOk(s); got != want {
			t.Fatalf("ValueOk(%q) = %v", s, got)
		}
	}
}

func TestNumRead(t *testing.T) {
	for s, want := range map[string]int{"0": 0, "1": 1, "9": 9, "10": 10, "120": 120, "100000": 100000, "999999": 999999, "1000000": impl.MaxTime} {
		if n, ok := impl.NumRead(s); n != want || !ok {
			t.Errorf("NumRead(%q) = %d, %v", s, n, ok)
		}
	}
	for _, s := range []string{
		"", " ", "-", "+", "00", "07", "000", "01000000", "0000001", "1000001", "1000010", "2000000", "9999999", "10000000",
		"-0", "-1", "+1", " 1", "1 ", "1 2", "1x", "x1", "1.0", "1e3", "0x1", "1_0", "\uff11", "\u0661", "1\x00", "\x001", "1\xff", "1\n",
		"18446744073709551616", "18446744073709551617", "9223372036854775808", "36893488147419103232", strings.Repeat("1", 10000), strings.Repeat("0", 10000),
	} {
		if n, ok := impl.NumRead(s); n != 0 || ok {
			t.Errorf("NumRead(%q) = %d, %v", s, n, ok)
		}
	}
}

// checkNumRead holds NumRead to what its words say turned round: s is the
// digits of a number if that number's digits are s.
func checkNumRead(t *testing.T, s string) {
	t.Helper()
	want, err := strconv.Atoi(s)
	wantOk := err == nil && want >= 0 && want <= impl.MaxTime && strconv.Itoa(want) == s
	if !wantOk {
		want = 0
	}
	if n, ok := impl.NumRead(s); n != want || ok != wantOk {
		t.Fatalf("NumRead(%q) = %d, %v, not %d, %v", s, n, ok, want, wantOk)
	}
}

func TestNumReadOfAllTexts(t *testing.T) {
	for _, s := range oddTexts() {
		checkNumRead(t, s)
	}
	for _, s := range textsOf([]string{"0", "1", "9", "-", "+", " ", "/", ":"}, 5) {
		checkNumRead(t, s)
	}
	for _, s := range textsOf([]string{"0", "1", "9"}, 8) {
		checkNumRead(t, s)
	}
}

func TestNumText(t *testing.T) {
	for n, want := range map[int]string{
		0: "0", 1: "1", 10: "10", 120: "120", 999999: "999999", impl.MaxTime: "1000000",
		-1: "", impl.MaxTime + 1: "", -impl.MaxTime: "", math.MinInt: "", math.MaxInt: "", 1 << 32: "", 1<<32 + 1: "",
	} {
		if got := impl.NumText(n); got != want {
			t.Errorf("NumText(%d) = %q, not %q", n, got, want)
		}
	}
}

func splitByLibrary(s string) []string {
	var out []string
	for _, part := range strings.Split(s, ",") {
		if part = strings.Trim(part, " "); part != "" {
			out = append(out, part)
		}
	}
	return out
}

func TestSplit(t *testing.T) {
	for s, want := range map[string][]string{
		"": nil, " ": nil, ",": nil, " , ,, ": nil, "a": {"a"}, " a, b c ,,d": {"a", "b c", "d"}, ",a": {"a"}, "a,": {"a"},
		"a,a": {"a", "a"}, "b,a": {"b", "a"}, "a\t,\n": {"a\t", "\n"}, "A,\u00e4,\xff": {"A", "\u00e4", "\xff"}, "\xe2\x82,\xac": {"\xe2\x82", "\xac"},
		"a\uff0cb;c": {"a\uff0cb;c"}, "no-store, max-age=3": {"no-store", "max-age=3"},
	} {
		if got := impl.Split(s); !slices.Equal(got, want) {
			t.Errorf("Split(%q) = %q, not %q", s, got, want)
		}
	}
	for _, s := range append(oddTexts(), textsOf([]string{"a", "b", ",", " "}, 7)...) {
		if got, want := impl.Split(s), splitByLibrary(s); !slices.Equal(got, want) {
			t.Fatalf("Split(%q) = %q, not %q", s, got, want)
		}
	}
	if got := impl.Split(strings.Repeat("a,", 10000)); len(got) != 10000 {
		t.Errorf("Split of 10000 parts has %d", len(got))
	}
}

func shares(answer, argument string) bool {
	if answer == "" || argument == "" {
		return false
	}
	first := uintptr(unsafe.Pointer(unsafe.StringData(argument)))
	at := uintptr(unsafe.Pointer(unsafe.StringData(answer)))
	return first <= at && at < first+uintptr(len(argument))
}

func TestWordAnswersAreNewMemory(t *testing.T) {
	for _, text := range []string{"small words", " two words , and more ", "BIG words"} {
		s := strings.Clone(text)
		answers := append(impl.Split(s), impl.Lower(s), impl.Trim(s))
		for _, answer := range answers {
			if shares(answer, s) {
				t.Errorf("the answer %q shares memory with %q", answer, s)
			}
		}
		first := impl.Split(s)
		for i := range first {
			first[i] = "turned"
		}
		if got := impl.Split(s); !slices.Equal(got, splitByLibrary(text)) || s != text {
			t.Errorf("Split(%q) = %q behind a write into an answer", text, got)
		}
	}
}

func TestPromise1NumbersAreReadAsTheyWere(t *testing.T) {
	for n := 0; n <= impl.MaxTime; n++ {
		text := impl.NumText(n)
		if back, ok := impl.NumRead(text); back != n || !ok {
			t.Fatalf("NumRead(NumText(%d)) = NumRead(%q) = %d, %v", n, text, back, ok)
		}
	}
}

func TestPromise1WhatIsMadeSmallStaysSo(t *testing.T) {
	for _, s := range append(oddTexts(), strings.Repeat("Ab\u00c4\xff", 5000)) {
		small := impl.Lower(s)
		if again := impl.Lower(small); again != small || len(small) != len(s) {
			t.Fatalf("Lower(%q) = %q, and again %q", s, small, again)
		}
	}
}

func TestWordLimits(t *testing.T) {
	if impl.MaxText != 60 || impl.MaxTime != 1000000 {
		t.Error("limits", impl.MaxText, impl.MaxTime)
	}
}
