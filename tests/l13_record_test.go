package tests

import (
	"fmt"
	"hash/adler32"
	"math"
	"regexp"
	"slices"
	"strconv"
	"strings"
	"testing"

	"loop.example/g00239/impl"
)

var recordForm = regexp.MustCompile(`^(0|[1-9][0-9]{0,9}) ([1-9][0-9]{0,4}|100000) (0|[1-9][0-9]{0,2}|1[0-9]{3}|2000)\x0a`)

// sumByHand puts the halves of another sum, which is made alike, together anew.
func sumByHand(s string) int {
	halves := int(adler32.Checksum([]byte(s)))
	return 65521*(halves>>16) + halves&0xffff
}

// summed is the text with its right sum ahead of it, whatever it is.
func summed(rest string) string { return fmt.Sprintf("%d %s", sumByHand(rest), rest) }

// recTextByHand tells what would be the text, of what is none, too.
func recTextByHand(seq int, body string) string {
	return summed(fmt.Sprintf("%d %d\x0a%s", seq, len(body), body))
}

func recByHand(s string) (int, string, bool) {
	found := recordForm.FindStringSubmatch(s)
	if found == nil {
		return 0, "", false
	}
	body := s[len(found[0]):]
	seq, _ := strconv.Atoi(found[2])
	if found[3] != strconv.Itoa(len(body)) || found[1] != strconv.Itoa(sumByHand(s[len(found[1])+1:])) {
		return 0, "", false
	}
	return seq, body, true
}

func checkSum(t *testing.T, s string, want int) {
	t.Helper()
	if got := impl.Sum(s); got != want {
		t.Fatalf("Sum(%.200q) = %d, not %d", s, got, want)
	}
}

func checkRecText(t *testing.T, seq int, body, want string) {
	t.Helper()
	if got := impl.RecText(seq, body); got != want {
		t.Fatalf("RecText(%d, %.200q) = %.200q, not %.200q", seq, body, got, want)
	}
}

// checkRec holds a record both ways.
func checkRec(t *testing.T, seq int, body string) {
	t.Helper()
	text := recTextByHand(seq, body)
	checkRecText(t, seq, body, text)
	if gotSeq, gotBody, ok := impl.RecRead(text); gotSeq != seq || gotBody != body || !ok {
		t.Fatalf("RecRead(%.200q) = %d, %.200q, %v", text, gotSeq, gotBody, ok)
	}
}

// checkRecRead holds RecRead to what was read by hand, and to its own text.
func checkRecRead(t *testing.T, s string) {
	t.Helper()
	seq, body, ok := recByHand(s)
	gotSeq, gotBody, gotOk := impl.RecRead(s)
	if gotSeq != seq || gotBody != body || gotOk != ok {
		t.Fatalf("RecRead(%.200q) = %d, %.200q, %v, not %d, %.200q, %v", s, gotSeq, gotBody, gotOk, seq, body, ok)
	}
	if ok {
		checkRecText(t, gotSeq, gotBody, s)
	}
}

// checkNoRec is for texts that are no record's, told without any reader.
func checkNoRec(t *testing.T, s string) {
	t.Helper()
	if seq, body, ok := impl.RecRead(s); seq != 0 || body != "" || ok {
		t.Fatalf("RecRead(%.200q) = %d, %.200q, %v", s, seq, body, ok)
	}
}

func recSeqs() []int {
	return []int{1, 2, 7, 9, 10, 99, 100, 101, 4711, 9999, 10000, 65521, 99999, impl.MaxSeq - 1, impl.MaxSeq}
}

// wrongSeqs are no numbers of records; some are where bits or signs get lost.
func wrongSeqs() []int {
	return []int{math.MinInt, math.MinInt + 1, -1 << 32, -1<<32 + 7, -impl.MaxSeq, -7, -2, -1, 0, impl.MaxSeq + 1, impl.MaxSeq + 2, 100010, 200000, 999999, impl.MaxTime, impl.MaxTime + 1, 1 << 31, 1 << 32, 1<<32 + 7, math.MaxInt - 1, math.MaxInt}
}

// recBodies has bodies that are easily cut at a wrong place, or taken for
// something else of a record.
func recBodies() []string {
	bodies := []string{
		"", "hi", "x", " ", "  ", "\n", "\n\n", " \n", "\n ", "\r\n", "0", "7", "7 2\nhi", "2\nhi", " 7 2\nhi", "\nhi", "1 1 0\n", "0 0 0\n", "\x00", "\x00\x00\x00", "\xff", "\xff\xff", "\xc3", "\u00e4\u20ac", "\u2028", "\x80", "\x7f", "ban path 3 /a", "obj /a 3 0\n",
		recTextByHand(1, ""), recTextByHand(7, "hi"), recTextByHand(impl.MaxSeq, "a b\nc"), recTextByHand(7, recTextByHand(7, recTextByHand(7, ""))), bytesFrom(0, 256), bytesFrom(128, 128),
	}
	for _, b := range someBans() {
		bodies = append(bodies, banTextByHand(b))
	}
	for _, o := range someObjs() {
		bodies = append(bodies, objTextByHand(o))
	}
	return bodies
}

// longBodies are as long as may be, or nearly so.
func longBodies() []string {
	all := []string{bytesFrom(3, impl.MaxRec), bytesFrom(200, impl.MaxRec-1)}
	for _, letter := range []string{"x", "\x00", "\xff", "\n", " ", "0", "\xc3"} {
		all = append(all, strings.Repeat(letter, impl.MaxRec), strings.Repeat(letter, impl.MaxRec-1))
	}
	last := recTextByHand(7, strings.Repeat("x", impl.MaxRec-20))
	return append(all, last+strings.Repeat("y", impl.MaxRec-len(last)))
}

// someRecs are records of all kinds, few and short enough to turn each at every
// place.
func someRecs() []string {
	var all []string
	for i, body := range recBodies() {
		if len(body) <= 40 {
			all = append(all, recTextByHand(recSeqs()[i%len(recSeqs())], body))
		}
	}
	return append(all, recTextByHand(1, "9 9\n"), recTextByHand(1, "0\n"), recTextByHand(99, "\n0 0\n"), recTextByHand(12, "345 6\n"), recTextByHand(12, "3 45\n6"))
}

func TestRecordLimits(t *testing.T) {
	if impl.MaxSeq != 100000 || impl.MaxRec != 2000 {
		t.Error("other limits are told", impl.MaxSeq, impl.MaxRec)
	}
}

func TestSum(t *testing.T) {
	for s, want := range map[string]int{
		"": 1, "\x00": 65522, "\x01": 2*65521 + 2, "a": 98*65521 + 98, " ": 33*65521 + 33, "\xff": 256*65521 + 256,
		"\x00\x00": 2*65521 + 1, "\x00\x01": 3*65521 + 2, "\x01\x00": 4*65521 + 2, "ab": (98+196)*65521 + 196, "ba": (99+196)*65521 + 196, "abc": (98+196+295)*65521 + 295, "\x80": 129*65521 + 129,
		"\xc3\xa4": (196+360)*65521 + 360, "7 2\nhi": 1039*65521 + 357, " 7 2\nhi": (33+88+120+170+180+284+389)*65521 + 389,
	} {
		checkSum(t, s, want)
		checkSum(t, s, sumByHand(s))
	}
}

func TestSumOfOneByte(t *testing.T) {
	for i, s := range singleBytes() {
		checkSum(t, s, 65521*(1+i)+1+i)
	}
	for _, s := range textsOf(singleBytes(), 2) {
		checkSum(t, s, sumByHand(s))
	}
}

// A byte more at a time, so that each place is met at which a or b begins anew.
func TestSumOfLongTexts(t *testing.T) {
	for _, letters := range []string{"\xff", "\x00", "\x01", "a", "\x80", "\xff\x00", "ab\xff", bytesFrom(0, 256)} {
		s := strings.Repeat(letters, 70000/len(letters))
		a, b, passedA, passedB := 1, 0, 0, 0
		for n := range 1200 {
			checkSum(t, s[:n], 65521*b+a)
			a += int(s[n])
			if a >= 65521 {
				a, passedA = a-65521, passedA+1
			}
			b += a
			if b >= 65521 {
				b, passedB = b-65521, passedB+1
			}
		}
		if letters == "\xff" && (passedA < 2 || passedB < 2) {
			t.Fatalf("a passed %d times only, b %d times", passedA, passedB)
		}
		for n := 1200; n < len(s); n += 1 + n/7 {
			checkSum(t, s[:n], sumByHand(s[:n]))
		}
	}
	for _, n := range []int{65519, 65520, 65521, 65522, 131042, 1000000} {
		for _, letter := range []string{"\x00", "\x01", "\xff"} {
			s := strings.Repeat(letter, n)
			checkSum(t, s, sumByHand(s))
		}
	}
	// Here b, and then a, is just as much as it is taken by.
	checkSum(t, strings.Repeat("\x00", 65521), 1)
	checkSum(t, strings.Repeat("\x00", 65520), 65521*65520+1)
	checkSum(t, strings.Repeat("\xff", 256)+"\xf0", sumByHand(strings.Repeat("\xff", 256)+"\xf0"))
	if got := impl.Sum(strings.Repeat("\xff", 256)+"\xf0") % 65521; got != 0 {
		t.Errorf("a is %d behind 65520 in all", got)
	}
	if got := impl.Sum(strings.Repeat("\xff", 256)+"\xef") % 65521; got != 65520 {
		t.Errorf("a is %d behind 65519 in all", got)
	}
}

func TestSumOfOtherOrders(t *testing.T) {
	for _, s := range []string{"ab", "abc", "hi", "7 2\nhi", "\x00\x01", "\xfe\xff", "a\nb", bytesFrom(0, 256), bytesFrom(10, 1000)} {
		turned := []byte(s)
		slices.Reverse(turned)
		checkSum(t, string(turned), sumByHand(string(turned)))
		if impl.Sum(string(turned))%65521 != impl.Sum(s)%65521 {
			t.Errorf("the a of %q hangs on its order", s)
		}
		for i := range len(s) - 1 {
			other := []byte(s)
			other[i], other[i+1] = other[i+1], other[i]
			checkSum(t, string(other), sumByHand(string(other)))
			if impl.Sum(string(other)) == impl.Sum(s) {
				t.Errorf("%q and %q have one sum", s, other)
			}
		}
	}
}

func TestSumOfAnyBytes(t *testing.T) {
	for _, s := range slices.Concat(oddTexts(), recBodies(), longBodies()) {
		checkSum(t, s, sumByHand(s))
		checkSum(t, strings.Repeat("\xff", 300)+s, sumByHand(strings.Repeat("\xff", 300)+s))
	}
}

// One byte turned, wherever it is, turns the sum.
func TestSumTurnsWithEachByte(t *testing.T) {
	for _, s := range []string{"a", "hi", "7 2\nhi", strings.Repeat("\xff", 600)} {
		was := impl.Sum(s)
		for at := range len(s) {
			for _, other := range singleBytes() {
				turned := s[:at] + other + s[at+1:]
				if (impl.Sum(turned) == was) != (turned == s) {
					t.Fatalf("Sum(%.200q) = Sum(%.200q)", turned, s)
				}
			}
		}
	}
}

func TestRecText(t *testing.T) {
	checkRecText(t, 7, "hi", "68076676 7 2\nhi")
	for _, c := range []struct {
		seq  int
		body string
		want string
	}{
		{1, "", "26339582 1 0\n"}, {1, "\x00", fmt.Sprintf("%d 1 1\n\x00", (50+82+131+141+141)*65521+141)}, {9, "\n", fmt.Sprintf("%d 9 1\n\n", (58+90+139+149+159)*65521+159)}, {2, " ", fmt.Sprintf("%d 2 1\n ", (51+83+132+142+174)*65521+174)}, {3, "\xff", fmt.Sprintf("%d 3 1\n\xff", (52+84+133+143+398)*65521+398)},
		{0, "", ""}, {0, "hi", ""}, {-1, "", ""}, {-1, "hi", ""}, {100001, "", ""}, {100001, "hi", ""},
	} {
		checkRecText(t, c.seq, c.body, c.want)
	}
	for _, seq := range []int{1, 100000} {
		if got := impl.RecText(seq, ""); !strings.HasSuffix(got, fmt.Sprintf(" %d 0\n", seq)) {
			t.Errorf("RecText(%d, \"\") = %q", seq, got)
		}
		if got := impl.RecText(seq, strings.Repeat("x", 2000)); !strings.HasSuffix(got, fmt.Sprintf(" %d 2000\n", seq)+strings.Repeat("x", 2000)) {
			t.Errorf("RecText(%d, ..) = %q", seq, got)
		}
	}
}

func TestRecTextNumbers(t *testing.T) {
	for _, body := range append(recBodies(), longBodies()...) {
		for _, seq := range recSeqs() {
			checkRec(t, seq, body)
		}
		for _, seq := range wrongSeqs() {
			checkRecText(t, seq, body, "")
		}
	}
	for seq := -1000; seq <= impl.MaxSeq+1000; seq++ {
		if 1 <= seq && seq <= 100000 {
			checkRec(t, seq, "b")
		} else {
			checkRecText(t, seq, "b", "")
			checkRecText(t, seq, "", "")
		}
	}
}

func TestRecTextBodies(t *testing.T) {
	for n := range impl.MaxRec + 300 {
		for _, body := range []string{strings.Repeat("x", n), bytesFrom(n, n)} {
			if n <= 2000 {
				checkRec(t, 1+n, body)
			} else {
				checkRecText(t, 1+n, body, "")
				checkRecText(t, 0, body, "")
			}
		}
	}
	for _, n := range []int{2001, 2002, 4000, 10000, 65536, 65536 + 5, 1000000, 1 << 20} {
		for _, letter := range []string{"x", "\x00", "\n", "\xff"} {
			checkRecText(t, 1, strings.Repeat(letter, n), "")
		}
	}
	for _, long := range longBodies() {
		checkRecText(t, 7, long+"zz", "")
	}
	// A rune is as many as it has bytes.
	checkRec(t, 1, strings.Repeat("\u20ac", 666)+"ab")
	checkRecText(t, 1, strings.Repeat("\u20ac", 667), "")
}

func TestRecTextOfAnyBytes(t *testing.T) {
	for _, s := range oddTexts() {
		checkRec(t, 7, s)
		checkRec(t, impl.MaxSeq, "a"+s+"\n"+s)
	}
}

// Records within records, as long as there is room.
func TestRecordsOfRecords(t *testing.T) {
	for _, text := range []string{"", "hi", "a b\n c"} {
		inner := []string{text}
		for seq := 1; len(text) <= impl.MaxRec; seq++ {
			checkRec(t, seq, text)
			text = impl.RecText(seq, text)
			inner = append(inner, text)
		}
		checkRecText(t, len(inner), text, "")
		for i := len(inner) - 1; i > 0; i-- {
			if seq, body, ok := impl.RecRead(inner[i]); seq != i || body != inner[i-1] || !ok {
				t.Fatalf("RecRead(%.200q) = %d, %.200q, %v", inner[i], seq, body, ok)
			}
		}
	}
}

func TestRecRead(t *testing.T) {
	for _, c := range []struct {
		s    string
		seq  int
		body string
	}{
		{"68076676 7 2\nhi", 7, "hi"}, {"26339582 1 0\n", 1, ""}, {fmt.Sprintf("%d 9 1\n\n", (58+90+139+149+159)*65521+159), 9, "\n"}, {fmt.Sprintf("%d 2 1\n ", (51+83+132+142+174)*65521+174), 2, " "},
		{summed("1 3\na b"), 1, "a b"}, {summed("100000 1\nx"), 100000, "x"}, {summed("99999 10\n0123456789"), 99999, "0123456789"}, {summed("1 2000\n" + strings.Repeat("x", 2000)), 1, strings.Repeat("x", 2000)},
	} {
		if seq, body, ok := impl.RecRead(c.s); seq != c.seq || body != c.body || !ok {
			t.Errorf("RecRead(%.200q) = %d, %.200q, %v", c.s, seq, body, ok)
		}
		checkRecRead(t, c.s)
	}
	for _, s := range []string{"", " ", "  ", "\n", "  \n", " \n", "0", "1", "1 ", "1 0", "1 0\n", "1 1 0\n", "0 1 0\n", "68076676", "68076676 ", "68076676 7", "68076676 7 ", "68076676 7 2", "68076676 7 2\n", "68076676 7 2\nh", "68076676 7 2\nhi ", "68076676  7 2\nhi", "7 2\nhi", " 7 2\nhi", "?"} {
		checkNoRec(t, s)
	}
}

func TestRecordsCutShortOrLonger(t *testing.T) {
	for _, s := range append(someRecs(), recTextByHand(7, longBodies()[0])) {
		checkRecRead(t, s)
		for cut := range len(s) {
			checkNoRec(t, s[:cut])
			if cut > 0 {
				// What is left of a body that is a record is one.
				checkRecRead(t, s[cut:])
			}
		}
		for _, more := range singleBytes() {
			checkNoRec(t, s+more)
			checkNoRec(t, more+s)
		}
		for _, more := range []string{"\r\n", "  ", "\n\n", "\x00\x00", s, "0 ", "1 1 0\n"} {
			checkNoRec(t, s+more)
			checkNoRec(t, more+s)
		}
		first, _, _ := strings.Cut(s, "\n")
		checkNoRec(t, first+s)
		checkNoRec(t, first+" "+s)
		checkNoRec(t, first+"\n"+s)
	}
}

// With a byte turned, left out or put in, at whatever place, there is none.
func TestRecordsTurnedAtEachPlace(t *testing.T) {
	for _, s := range someRecs() {
		for at := range len(s) {
			checkNoRec(t, s[:at]+s[at+1:])
			for _, other := range singleBytes() {
				checkNoRec(t, s[:at]+other+s[at:])
				if other != s[at:at+1] {
					checkNoRec(t, s[:at]+other+s[at+1:])
				}
			}
		}
	}
	for i, body := range longBodies() {
		s := recTextByHand(recSeqs()[i%len(recSeqs())], body)
		for at := range len(s) {
			checkNoRec(t, s[:at]+s[at+1:])
			for _, other := range []string{"\n", "0", "\x00"} {
				checkNoRec(t, s[:at]+other+s[at:])
				if other != s[at:at+1] {
					checkNoRec(t, s[:at]+other+s[at+1:])
				}
			}
		}
	}
}

func TestRecordsWithTwoBytesInEachOthersPlace(t *testing.T) {
	for _, s := range someRecs() {
		for i := range len(s) {
			for j := range i {
				turned := []byte(s)
				turned[i], turned[j] = s[j], s[i]
				checkRecRead(t, string(turned))
				if s[i] != s[j] {
					checkNoRec(t, string(turned))
				}
			}
		}
	}
}

// numberForms tells n in ways that no record does. Each stands for n alone.
func numberForms(n int) []string {
	digits := strconv.Itoa(n)
	return []string{
		"", " ", "0" + digits, "00" + digits, strings.Repeat("0", 400) + digits, "+" + digits, "-" + digits, "--" + digits, " " + digits, "  " + digits, digits + " ", digits + "  ", "\t" + digits, digits + "\t", digits + ".", digits + ".0", digits + ",", digits + "x", "x" + digits, "0x" + strconv.FormatInt(int64(n), 16), digits + "e0",
		digits + "\x00", "\x00" + digits, digits + "\xff", "\xff" + digits, digits + "\r", "\n" + digits, digits + "\n", digits + "\u00a0", "\"" + digits + "\"", strings.ReplaceAll(digits, digits[:1], string(rune(0xff10+int(digits[0]-'0')))), strings.ReplaceAll(digits, digits[:1], string(rune(0x660+int(digits[0]-'0')))), "_" + digits, digits + "_", "0_" + digits,
		"18446744073709551616", strconv.FormatUint(math.MaxUint64-uint64(n), 10), "1844674407370955161" + strconv.Itoa(6+n%3), "9223372036854775807", "9223372036854775808", "-9223372036854775808", "4294967296", strings.Repeat("9", 400), strings.Repeat("1", 30), "10000000", "one",
	}
}

// wrapped tells numbers of which n is left where bits get lost.
func wrapped(n int) []string {
	return []string{strconv.Itoa(n + 1<<8), strconv.Itoa(n + 1<<16), strconv.Itoa(n + 1<<32), strconv.Itoa(n + 1<<40), strconv.FormatUint(uint64(n)+1<<63, 10), "1" + fmt.Sprintf("%019d", 8446744073709551616+uint64(n))}
}

// The number of each of these is not as it is told, but its sum is right, as
// if it had been made of it.
func TestRecReadSeqs(t *testing.T) {
	for _, body := range []string{"", "hi", "a b\nc", "7", "\n"} {
		for _, seq := range recSeqs() {
			for _, form := range numberForms(seq) {
				checkNoRec(t, summed(fmt.Sprintf("%s %d\n%s", form, len(body), body)))
			}
			for _, form := range wrapped(seq) {
				checkRecRead(t, summed(fmt.Sprintf("%s %d\n%s", form, len(body), body)))
			}
			checkNoRec(t, summed(fmt.Sprintf("%d\n%s", len(body), body)))
			checkNoRec(t, summed(fmt.Sprintf("%d%d\n%s", seq, len(body), body)))
			checkNoRec(t, summed(fmt.Sprintf("%d %d %d\n%s", seq, seq, len(body), body)))
		}
		for _, seq := range wrongSeqs() {
			checkNoRec(t, recTextByHand(seq, body))
		}
		checkNoRec(t, recTextByHand(0, body))
		checkRec(t, 1, body)
		checkRec(t, 100000, body)
		checkNoRec(t, recTextByHand(100001, body))
	}
}

// Here, too, the sum is right.
func TestRecReadHowManyBytes(t *testing.T) {
	for _, body := range append(recBodies(), longBodies()...) {
		n := len(body)
		for _, form := range append(numberForms(n), wrapped(n)...) {
			checkNoRec(t, summed(fmt.Sprintf("7 %s\n%s", form, body)))
		}
		for _, count := range []int{n - 1, n + 1, n - 2, n + 2, 0, 1, 2, 10 * n, n / 10, 1999, 2000, 2001, -n, n + 256, n + 65536} {
			if count != n {
				checkNoRec(t, summed(fmt.Sprintf("7 %d\n%s", count, body)))
			}
		}
		checkNoRec(t, summed("7\n"+body))
		checkNoRec(t, summed("7 \n"+body))
		checkNoRec(t, summed(fmt.Sprintf("7 %d%s", n, strings.ReplaceAll(body, "\n", ""))))
		checkNoRec(t, summed(fmt.Sprintf("%d 7\n%s", n, body+strings.Repeat("y", 9))))
	}
	for _, n := range []int{2001, 2002, 3000, 10000, 65536, 65541, 100000} {
		for _, letter := range []string{"x", "\n", "\x00", "\xff"} {
			body := strings.Repeat(letter, n)
			checkNoRec(t, recTextByHand(7, body))
			checkNoRec(t, summed("7 2000\n"+body))
			checkNoRec(t, summed("7 "+strconv.Itoa(n%65536)+"\n"+body))
		}
	}
}

// All else is right, but the sum is told in another way, or is another one.
func TestRecReadSums(t *testing.T) {
	for _, body := range []string{"", "hi", "a b\nc", "\x00", "7", longBodies()[0]} {
		for _, seq := range recSeqs() {
			rest := fmt.Sprintf("%d %d\n%s", seq, len(body), body)
			sum := sumByHand(rest)
			for _, form := range append(numberForms(sum), wrapped(sum)...) {
				checkNoRec(t, form+" "+rest)
			}
			checkNoRec(t, rest)
			checkNoRec(t, " "+rest)
			checkNoRec(t, strconv.Itoa(sum)+rest)
			checkNoRec(t, strconv.Itoa(sum)+"\n"+rest)
			a, b := sum%65521, sum/65521
			for _, other := range []int{0, 1, -1, a, b, 65521*a + b, a + b, b<<16 + a, sum - 1, sum + 1, sum - a, sum + 65521, sum - 65521, sum + 65521*65521, -sum, sum ^ 1, sum * 10, sum / 10, sumByHand(body), sumByHand(" " + rest), sumByHand(rest + "\n"), sumByHand(rest[1:])} {
				if other != sum {
					checkNoRec(t, fmt.Sprintf("%d %s", other, rest))
				}
			}
			// The sum of another record.
			checkNoRec(t, fmt.Sprintf("%d %s", sumByHand(fmt.Sprintf("%d %d\n%s", seq+1, len(body), body)), rest))
			checkNoRec(t, fmt.Sprintf("%d %s", sumByHand(fmt.Sprintf("%d %d\n%s", seq, len(body)+1, body)), rest))
			checkRecRead(t, fmt.Sprintf("%d %s", sum, rest))
		}
	}
}

// A byte of the body turned, and the sum made anew, is another record.
func TestRecReadOfSumsMadeAnew(t *testing.T) {
	for at := range 5 {
		for _, other := range singleBytes() {
			body := "a b\nc"[:at] + other + "a b\nc"[at+1:]
			checkRec(t, 7, body)
			if seq, got, ok := impl.RecRead(summed("7 5\n" + body)); seq != 7 || got != body || !ok {
				t.Fatalf("with its sum made anew %q is read as %d, %q, %v", body, seq, got, ok)
			}
		}
	}
	for _, s := range someRecs() {
		_, rest, _ := strings.Cut(s, " ")
		checkRecRead(t, summed(rest))
		for at := range len(rest) {
			checkRecRead(t, summed(rest[:at]+rest[at+1:]))
			for _, other := range singleBytes() {
				checkRecRead(t, summed(rest[:at]+other+rest[at:]))
				checkRecRead(t, summed(rest[:at]+other+rest[at+1:]))
			}
		}
	}
}

func TestRecReadBlanksAndLineEnds(t *testing.T) {
	for _, s := range someRecs() {
		head, body, _ := strings.Cut(s, "\n")
		words := strings.Split(head, " ")
		for _, other := range []string{"", "  ", "\n", "\t", " \n", "\n ", "\r\n", "\x00", "\u00a0", ",", "\x0b"} {
			checkNoRec(t, words[0]+other+words[1]+" "+words[2]+"\n"+body)
			checkNoRec(t, summed(words[1]+other+words[2]+"\n"+body))
			checkNoRec(t, fmt.Sprintf("%d%s%s %s\n%s", sumByHand(other+words[1]+" "+words[2]+"\n"+body), other, words[1], words[2], body))
		}
		for _, other := range []string{"", " ", "\r", "\r\n", "\n\r", "\n\n", " \n", "\n ", "\t", "\x00", "\x0b", "\u0085"} {
			checkNoRec(t, words[0]+" "+words[1]+" "+words[2]+other+body)
			checkRecRead(t, summed(words[1]+" "+words[2]+other+body))
		}
		for _, other := range []string{"\r", "\r\n", "\n\r", "\n\n", " \n", "\n ", "\t", "\x00", "\x0b", "\u0085"} {
			checkNoRec(t, summed(words[1]+" "+words[2]+other+body))
		}
	}
}

func TestRecReadOfAllOrdersOfWords(t *testing.T) {
	for _, s := range textsOf([]string{"1", "0", "26339582", "68076676", "7", "2", " ", "\n", "hi"}, 5) {
		checkRecRead(t, s)
		checkRecRead(t, summed(s))
		checkRecRead(t, summed("7 "+s))
		checkRecRead(t, summed("7 3\n"+s))
	}
}

func TestRecReadOfAnyBytes(t *testing.T) {
	for _, s := range oddTexts() {
		checkNoRec(t, s)
		checkNoRec(t, summed(s))
		checkNoRec(t, "68076676 7 2\nhix"+s)
		checkRecRead(t, "68076676 7 2\n"+s)
		checkRecRead(t, "68076676 7 "+s+"hi")
		checkRecRead(t, s+" 7 2\nhi")
		checkRecRead(t, "68076676"+s+"7 2\nhi")
		checkRecRead(t, summed(s+" 2\nhi"))
		checkRecRead(t, summed("7 "+s+"\nhi"))
		checkRecRead(t, summed("7"+s+"2\nhi"))
		checkRecRead(t, summed("7 2"+s+"hi"))
		checkRecRead(t, summed("7 2\n"+s))
	}
	for _, s := range slices.Concat(someTexts(), diskTexts()) {
		checkNoRec(t, s)
	}
	for _, o := range someObjs() {
		checkNoRec(t, objTextByHand(o))
	}
	for _, b := range someBans() {
		checkNoRec(t, banTextByHand(b))
	}
	for _, letters := range []string{"\n", "x", " ", "9", "0", "\xff", "\x00", "7 2\nhi", "68076676 7 2\nhi", "1 "} {
		long := strings.Repeat(letters, 100000)
		for _, head := range []string{"", "1 ", "68076676 ", "68076676 7", "68076676 7 ", "68076676 7 2", "68076676 7 2\n", "68076676 7 2\nhi", "68076676 7 100000\n"} {
			checkNoRec(t, head+long)
		}
		checkNoRec(t, summed("7 2\n"+long))
		checkNoRec(t, recTextByHand(7, long))
	}
}

func TestRecordTextsAreNewMemory(t *testing.T) {
	for _, made := range append(recBodies(), longBodies()...) {
		body := strings.Clone(made)
		text := impl.RecText(7, body)
		if text == "" || shares(text, body) {
			t.Errorf("the record %.200q shares memory with its body", text)
		}
		_, read, ok := impl.RecRead(text)
		if !ok || shares(read, text) || shares(read, body) {
			t.Errorf("the body %.200q shares memory with its record", read)
		}
		if body != made || text != recTextByHand(7, made) {
			t.Errorf("%.200q or %.200q was written into", body, text)
		}
	}
}

// What was asked ahead, and whether it was refused, is nothing to what is asked
// behind it.
func TestRecordsKeepNothing(t *testing.T) {
	for _, ahead := range []string{"", "68076676 7 2\nhi", "68076676 7 2\nhj", "26339582 1 0\n", recTextByHand(9, longBodies()[0]), strings.Repeat("9", 5000)} {
		impl.RecRead(ahead)
		impl.Sum(ahead)
		impl.RecText(9, ahead)
		impl.RecText(0, ahead)
		checkNoRec(t, "68076676 7 2\nhj")
		checkSum(t, "a", 65521*98+98)
		checkRecText(t, 7, "hi", "68076676 7 2\nhi")
		checkRec(t, 7, "hi")
		checkSum(t, "", 1)
	}
}

// checkPromise13 turns a byte at each of some places into each of some others.
func checkPromise13(t *testing.T, seq int, body string, step int, turns []byte) {
	t.Helper()
	text := impl.RecText(seq, body)
	gotSeq, gotBody, ok := impl.RecRead(text)
	if gotSeq != seq || gotBody != body || !ok {
		t.Fatalf("RecRead(RecText(%d, %.200q)) = RecRead(%.200q) = %d, %.200q, %v", seq, body, text, gotSeq, gotBody, ok)
	}
	if again := impl.RecText(gotSeq, gotBody); again != text {
		t.Fatalf("what was read from %.200q is told as %.200q", text, again)
	}
	for at := seq % step; at < len(text); at += step {
		for _, turn := range turns {
			turned := []byte(text)
			turned[at] ^= turn
			checkNoRec(t, string(turned))
		}
	}
}

// eachBit turns one bit of a byte each; everyTurn makes each other byte of it.
func eachBit() []byte { return []byte{1, 2, 4, 8, 16, 32, 64, 128} }

func everyTurn() []byte { return []byte(bytesFrom(1, 255)) }

func TestPromise13RecordsAreReadAsTheyWere(t *testing.T) {
	for seq := 1; seq <= impl.MaxSeq; seq++ {
		checkPromise13(t, seq, bytesFrom(seq, seq%23), 11, []byte{1, 255})
	}
	for n := range impl.MaxRec + 1 {
		checkPromise13(t, 1+n*49, bytesFrom(n, n), 101, eachBit())
	}
}

func TestPromise13WithOneByteTurnedThereIsNone(t *testing.T) {
	for i, body := range recBodies() {
		checkPromise13(t, recSeqs()[i%len(recSeqs())], body, 1, eachBit())
		if len(body) <= 40 {
			checkPromise13(t, recSeqs()[(i+5)%len(recSeqs())], body, 1, everyTurn())
		}
	}
	for i, body := range longBodies() {
		checkPromise13(t, recSeqs()[i%len(recSeqs())], body, 1, []byte{1, 128, 255})
	}
	for i, s := range oddTexts() {
		checkPromise13(t, 1+i*37%impl.MaxSeq, s, 3, []byte{1, 10, 16, 42, 255})
	}
}

func TestPromise13WhatIsReadIsToldAgainAsItStood(t *testing.T) {
	read := 0
	for _, s := range someRecs() {
		_, rest, _ := strings.Cut(s, " ")
		for at := range len(rest) {
			for _, other := range singleBytes() {
				text := summed(rest[:at] + other + rest[at+1:])
				seq, body, ok := impl.RecRead(text)
				if !ok {
					continue
				}
				read++
				checkRecText(t, seq, body, text)
			}
		}
	}
	if read < 10000 {
		t.Errorf("only %d of these were read", read)
	}
}
