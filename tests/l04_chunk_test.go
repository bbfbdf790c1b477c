package tests

import (
	"fmt"
	"math"
	"regexp"
	"slices"
	"strconv"
	"strings"
	"testing"

	"loop.example/g00239/impl"
)

var codeWords = map[int]string{impl.CkDone: "done", impl.CkMore: "more", impl.CkBad: "bad", impl.CkLong: "long"}

// sizeLists tells every list of at most most of the sizes.
func sizeLists(sizes []int, most int) [][]int {
	all := [][]int{nil}
	from := 0
	for range most {
		to := len(all)
		for _, head := range all[from:to] {
			for _, size := range sizes {
				all = append(all, append(slices.Clone(head), size))
			}
		}
		from = to
	}
	return all
}

// oddSizes has sizes of all kinds: below 1, less than, as much as and more than
// a body, and such as together leave 64 bits.
func oddSizes() [][]int {
	all := sizeLists([]int{math.MinInt, -1, 0, 1, 2, 7, 119, 120, 121, math.MaxInt}, 3)
	return append(all,
		[]int{}, slices.Repeat([]int{1}, 119), slices.Repeat([]int{1}, 120), slices.Repeat([]int{1}, 300), slices.Repeat([]int{0}, 300),
		slices.Repeat([]int{0, 1, -1}, 200), slices.Repeat([]int{math.MaxInt}, 4), []int{1, math.MaxInt, math.MaxInt, math.MaxInt},
		[]int{1, math.MaxInt, 1}, []int{2, math.MaxInt - 1, 3}, []int{1 << 62, 1 << 62, 1 << 62, 1 << 62}, []int{math.MaxInt, math.MinInt, 1},
		[]int{9, 10, 15, 16, 17, 30, 23}, []int{60, 60}, []int{60, 0, 59}, []int{100, 20, 0, 0}, []int{1 << 32, 1}, []int{1<<32 + 1, 1}, []int{1 << 16, 1}, []int{257, 1}, []int{256, 1},
		[]int{64, 32, 16, 8}, []int{1, 2, 3, 4, 5, 6, 7, 8, 9, 10, 11, 12, 13, 14, 15},
	)
}

func partsByHand(body string, sizes []int) []string {
	var parts []string
	for at, next := 0, 0; at < len(body); {
		size := len(body)
		if next < len(sizes) {
			size = sizes[next]
			next++
		}
		end := at
		for i := 0; i < size && end < len(body); i++ {
			end++
		}
		if end > at {
			parts = append(parts, body[at:end])
		}
		at = end
	}
	return parts
}

func textOfParts(parts []string) string {
	out := ""
	for _, part := range parts {
		out += fmt.Sprintf("%x\x0d\x0a%s\x0d\x0a", len(part), part)
	}
	return out + "0\x0d\x0a\x0d\x0a"
}

var (
	wholeLength = regexp.MustCompile(`^(0|[1-9a-f][0-9a-f]{0,3})\x0d\x0a`)
	cutLength   = regexp.MustCompile(`^((0|[1-9a-f][0-9a-f]{0,3})\x0d?)?$`)
)

// chunksByHand reads by the forms that the document names.
func chunksByHand(s string) (body string, taken int, code int) {
	rest := s
	for {
		length := wholeLength.FindStringSubmatch(rest)
		if length == nil && cutLength.MatchString(rest) {
			return "", 0, impl.CkMore
		}
		if length == nil {
			return "", 0, impl.CkBad
		}
		n, _ := strconv.ParseInt(length[1], 16, 64)
		if len(body)+int(n) > 120 {
			return "", 0, impl.CkLong
		}
		rest = rest[len(length[0]):]
		bytes := rest[:min(int(n), len(rest))]
		behind := rest[len(bytes):]
		if behind == "" || behind == "\x0d" {
			return "", 0, impl.CkMore
		}
		if !strings.HasPrefix(behind, "\x0d\x0a") {
			return "", 0, impl.CkBad
		}
		body += bytes
		rest = behind[2:]
		if n == 0 {
			return body, len(s) - len(rest), impl.CkDone
		}
	}
}

// checkChunks holds ChunkRead to what was read by hand.
func checkChunks(t *testing.T, s string) {
	t.Helper()
	wantBody, wantTaken, want := chunksByHand(s)
	body, taken, code := impl.ChunkRead(s)
	if body != wantBody || taken != wantTaken || code != want {
		t.Fatalf("ChunkRead(%q) = %q, %d, %s, not %q, %d, %s", s, body, taken, codeWords[code], wantBody, wantTaken, codeWords[want])
	}
}

// checkCode is for texts that are not read, told without any reader.
func checkCode(t *testing.T, s string, want int) {
	t.Helper()
	if body, taken, code := impl.ChunkRead(s); body != "" || taken != 0 || code != want {
		t.Errorf("ChunkRead(%q) = %q, %d, %s, not %s", s, body, taken, codeWords[code], codeWords[want])
	}
	checkChunks(t, s)
}

func checkDone(t *testing.T, s, wantBody string, wantTaken int) {
	t.Helper()
	if body, taken, code := impl.ChunkRead(s); body != wantBody || taken != wantTaken || code != impl.CkDone {
		t.Errorf("ChunkRead(%q) = %q, %d, %s, not %q, %d, done", s, body, taken, codeWords[code], wantBody, wantTaken)
	}
}

func TestChunkCodes(t *testing.T) {
	if impl.CkDone != 0 || impl.CkMore != 1 || impl.CkBad != 2 || impl.CkLong != 3 {
		t.Error("codes", impl.CkDone, impl.CkMore, impl.CkBad, impl.CkLong)
	}
}

func TestHex(t *testing.T) {
	for _, c := range []struct {
		n    int
		want string
	}{
		{0, "0"}, {1, "1"}, {9, "9"}, {10, "a"}, {15, "f"}, {16, "10"}, {120, "78"}, {121, "79"}, {255, "ff"}, {256, "100"}, {4095, "fff"}, {4096, "1000"},
		{65535, "ffff"}, {65536, "10000"}, {703710, "abcde"}, {999999, "f423f"}, {impl.MaxTime, "f4240"},
		{-1, ""}, {-16, ""}, {impl.MaxTime + 1, ""}, {math.MinInt, ""}, {math.MaxInt, ""}, {1 << 32, ""}, {1<<32 + 10, ""}, {1<<62 + 10, ""}, {math.MinInt + 10, ""},
	} {
		if got := impl.Hex(c.n); got != c.want {
			t.Errorf("Hex(%d) = %q, not %q", c.n, got, c.want)
		}
	}
	for n := range impl.MaxTime + 1 {
		if got := impl.Hex(n); got != fmt.Sprintf("%x", n) {
			t.Fatalf("Hex(%d) = %q", n, got)
		}
	}
	for n := 1; n <= 100000; n++ {
		if low, high := impl.Hex(-n), impl.Hex(impl.MaxTime+n); low != "" || high != "" {
			t.Fatalf("Hex(%d), Hex(%d) = %q, %q", -n, impl.MaxTime+n, low, high)
		}
	}
}

func TestChunkText(t *testing.T) {
	ones := []int{1, 1, 1, 1, 1, 1}
	for _, c := range []struct {
		body  string
		sizes []int
		want  string
	}{
		{"", nil, "0\r\n\r\n"}, {"", []int{}, "0\r\n\r\n"}, {"", []int{0}, "0\r\n\r\n"}, {"", []int{3, -1, math.MaxInt}, "0\r\n\r\n"},
		{"hello", nil, "5\r\nhello\r\n0\r\n\r\n"}, {"hello", []int{}, "5\r\nhello\r\n0\r\n\r\n"},
		{"hello", []int{2, 0, 9}, "2\r\nhe\r\n3\r\nllo\r\n0\r\n\r\n"}, {"hello", []int{2}, "2\r\nhe\r\n3\r\nllo\r\n0\r\n\r\n"}, {"hello", []int{2, 3}, "2\r\nhe\r\n3\r\nllo\r\n0\r\n\r\n"},
		{"hello", []int{2, 3, 4}, "2\r\nhe\r\n3\r\nllo\r\n0\r\n\r\n"}, {"hello", []int{2, 2}, "2\r\nhe\r\n2\r\nll\r\n1\r\no\r\n0\r\n\r\n"}, {"hello", []int{4}, "4\r\nhell\r\n1\r\no\r\n0\r\n\r\n"},
		{"hello", []int{5}, "5\r\nhello\r\n0\r\n\r\n"}, {"hello", []int{6}, "5\r\nhello\r\n0\r\n\r\n"}, {"hello", []int{5, 0, 1}, "5\r\nhello\r\n0\r\n\r\n"},
		{"hello", []int{0, 0, -1, -5, math.MinInt}, "5\r\nhello\r\n0\r\n\r\n"}, {"hello", []int{-2, 2, -3, 3}, "2\r\nhe\r\n3\r\nllo\r\n0\r\n\r\n"},
		{"hello", []int{math.MaxInt, math.MaxInt}, "5\r\nhello\r\n0\r\n\r\n"}, {"hello", []int{2, math.MaxInt, math.MaxInt}, "2\r\nhe\r\n3\r\nllo\r\n0\r\n\r\n"},
		{"hello", []int{1, math.MaxInt, 1, 1}, "1\r\nh\r\n4\r\nello\r\n0\r\n\r\n"}, {"hello", []int{math.MinInt, math.MinInt, 1, 4}, "1\r\nh\r\n4\r\nello\r\n0\r\n\r\n"},
		{"abc", ones, "1\r\na\r\n1\r\nb\r\n1\r\nc\r\n0\r\n\r\n"}, {"a\r\n", ones, "1\r\na\r\n1\r\n\r\r\n1\r\n\n\r\n0\r\n\r\n"}, {"0\r\n\r\n", []int{3}, "3\r\n0\r\n\r\n2\r\n\r\n\r\n0\r\n\r\n"},
		{"\u00e4", []int{1}, "1\r\n\xc3\r\n1\r\n\xa4\r\n0\r\n\r\n"}, {strings.Repeat("x", 26), []int{10, 16}, "a\r\nxxxxxxxxxx\r\n10\r\nxxxxxxxxxxxxxxxx\r\n0\r\n\r\n"},
	} {
		if got := impl.ChunkText(c.body, c.sizes); got != c.want {
			t.Errorf("ChunkText(%q, %d) = %q, not %q", c.body, c.sizes, got, c.want)
		}
	}
}

func TestChunkTextOfAllSizes(t *testing.T) {
	for _, sizes := range append(oddSizes(), sizeLists([]int{-1, 0, 1, 2, 3, 5, 6}, 4)...) {
		for _, body := range append(rightBodies(), "hello", "hello world") {
			if got, want := impl.ChunkText(body, sizes), textOfParts(partsByHand(body, sizes)); got != want {
				t.Fatalf("ChunkText(%q, %d) = %q, not %q", body, sizes, got, want)
			}
		}
	}
}

// A body is told in parts however long it is; it is how it is read that is
// bounded.
func TestChunkTextOfLongBodies(t *testing.T) {
	for _, n := range []int{121, 255, 256, 4095, 4096, 65535, 65536, impl.MaxTime} {
		body := bytesFrom(7, n)
		for _, sizes := range [][]int{nil, {n}, {n - 1}, {n + 1}, {120}, {1, math.MaxInt}, {n / 2}, {0, -1, n / 3, n / 3}} {
			if got, want := impl.ChunkText(body, sizes), textOfParts(partsByHand(body, sizes)); got != want {
				t.Errorf("ChunkText of %d bytes by %d: %d bytes, not %d", n, sizes, len(got), len(want))
			}
		}
	}
	// There is no Hex of one more than MaxTime.
	body := strings.Repeat("x", impl.MaxTime+1)
	if got := impl.ChunkText(body, nil); got != "\r\n"+body+"\r\n0\r\n\r\n" {
		t.Errorf("ChunkText of MaxTime + 1 bytes in one part: %d bytes, that begin %q", len(got), got[:10])
	}
	if got := impl.ChunkText(body, []int{impl.MaxTime}); got != "f4240\r\n"+body[1:]+"\r\n1\r\nx\r\n0\r\n\r\n" {
		t.Errorf("ChunkText of MaxTime + 1 bytes in two parts: %d bytes, that begin %q", len(got), got[:10])
	}
	sizes := slices.Repeat([]int{0, -1, 1}, 300000)
	if got := impl.ChunkText("ab", sizes); got != "1\r\na\r\n1\r\nb\r\n0\r\n\r\n" {
		t.Errorf("ChunkText by many sizes: %q", got)
	}
}

func TestChunkRead(t *testing.T) {
	checkDone(t, "0\r\n\r\n", "", 5)
	checkDone(t, "5\r\nhello\r\n0\r\n\r\n", "hello", 15)
	checkDone(t, "2\r\nhe\r\n3\r\nllo\r\n0\r\n\r\n", "hello", 20)
	checkDone(t, "1\r\nh\r\n1\r\ne\r\n0\r\n\r\n", "he", 17)
	checkDone(t, "2\r\n\r\n\r\n0\r\n\r\n", "\r\n", 12)
	checkDone(t, "5\r\n0\r\n\r\n\r\n0\r\n\r\n", "0\r\n\r\n", 15)
	checkDone(t, "a\r\n0123456789\r\n0\r\n\r\n", "0123456789", 20)
	checkDone(t, "1\r\n\xc3\r\n1\r\n\xa4\r\n0\r\n\r\n", "\u00e4", 17)
	checkDone(t, "1\r\n\x00\r\n0\r\n\r\n", "\x00", 11)
	for _, s := range []string{"", "2\r\nhe", "5\r\nhe\r\n0", "2\r\nhe\r\n0\r\n", "2\r\nhe\r\n", "2\r\nhe\r\n3", "2\r\nhe\r\n0\r\n\r", "f", "ffff", "1234\r", "78\r\n"} {
		checkCode(t, s, impl.CkMore)
	}
	for _, s := range []string{"2\r\nhex", "02\r\nhe\r\n", "g", "0\r\nx", "12345", "x", "\r\n", "\n", "2\nhe\n0\n\n", "2;a=b\r\nhe\r\n0\r\n\r\n", "0\r\na: 1\r\n\r\n", "-1\r\n", "+1\r\n", "0x1\r\n", " 1\r\n", "1 \r\n"} {
		checkCode(t, s, impl.CkBad)
	}
	for _, s := range []string{"ff\r\n", "79\r\n", "ffff\r\n", "1000\r\n", "100\r\nhe"} {
		checkCode(t, s, impl.CkLong)
	}
}

// chunkBodies are rightBodies, and the shortest ones.
func chunkBodies() []string {
	return append(rightBodies(), "hello", "0", "0\r\n\r\n", "1\r\nx\r\n0\r\n\r\n", "5\r\n", "f4240", strings.Repeat("0\r\n\r\n", 24))
}

// someChunks are whole texts of all kinds, few enough to turn each at every
// place.
func someChunks() []string {
	var all []string
	lists := [][]int{nil, {1}, {2, 3}, {16, 0, 15}, {1, 1, 1, 1}, {9, 10, 11}, {119}, slices.Repeat([]int{7}, 20)}
	for i, body := range chunkBodies() {
		for k := range 3 {
			all = append(all, textOfParts(partsByHand(body, lists[(i+3*k)%len(lists)])))
		}
	}
	return all
}

func TestChunksCutShortAtEveryPlace(t *testing.T) {
	for _, s := range someChunks() {
		for cut := range len(s) {
			checkCode(t, s[:cut], impl.CkMore)
			checkChunks(t, s[cut:])
		}
		checkDone(t, s, chunkBody(s), len(s))
	}
}

func chunkBody(s string) string {
	body, _, _ := chunksByHand(s)
	return body
}

func TestWhatIsBehindIsLeft(t *testing.T) {
	behind := append([]string{"0\r\n\r\n", "1\r\nx\r\n", "1\r\nx\r\n0\r\n\r\n", "\r\n", "ffff\r\n", "79\r\n", "x", strings.Repeat("x", 100000)}, singleBytes()...)
	behind = append(behind, someTexts()[:6]...)
	for _, s := range someChunks() {
		body := chunkBody(s)
		for _, more := range behind {
			checkDone(t, s+more, body, len(s))
		}
		checkDone(t, s+s, body, len(s))
	}
	for _, more := range oddTexts() {
		checkDone(t, "0\r\n\r\n"+more, "", 5)
		checkDone(t, "1\r\nx\r\n0\r\n\r\n"+more, "x", 11)
	}
}

func TestWrongChunkLengths(t *testing.T) {
	for _, length := range []string{
		"00", "01", "000", "0000", "00000", "0001", "05", "005", "0005", "00005", "0a", "0f", "A", "F", "1A", "aF", "FF", "Aa", "aA", "12345", "00001", "10000", "fffff", "abcdef", "ffffffffffffffff", "10000000000000005",
		"g", "5g", "g5", "-", "-5", "+5", " 5", "5 ", "5;", "5;x", "5.", "5,", "0x5", "5h", "\x00", "5\x00", "\xff", "5\xff", "\u0665", "\uff15", "5\uff15", "\n", "5\n", "\x2f", "\x3a", "\x60", "\x67", "\x40",
	} {
		for _, rest := range []string{"", "\r\n", "\r\nhello\r\n0\r\n\r\n", "\r\n\r\n", "hello", "\r", "\r\nhello"} {
			checkCode(t, length+rest, impl.CkBad)
			checkCode(t, "1\r\nx\r\n"+length+rest, impl.CkBad)
		}
	}
	// Without a digit, the line's end can't begin a part.
	for _, s := range []string{"\r", "\r\n", "\r\n\r\n", "\r\nhello\r\n", "\r\n0\r\n\r\n"} {
		checkCode(t, s, impl.CkBad)
		checkCode(t, "1\r\nx\r\n"+s, impl.CkBad)
	}
	// A \r behind the digits may be the half of a line's end, and no more.
	for _, length := range []string{"0", "5", "a", "f", "10", "78", "79", "ff", "fff", "1000", "ffff"} {
		for _, ahead := range []string{"", "1\r\nx\r\n"} {
			checkCode(t, ahead+length, impl.CkMore)
			checkCode(t, ahead+length+"\r", impl.CkMore)
			for _, b := range singleBytes() {
				if b != "\n" {
					checkCode(t, ahead+length+"\r"+b, impl.CkBad)
				}
			}
		}
	}
}

func TestEachByteAtALength(t *testing.T) {
	for _, b := range singleBytes() {
		digit := strings.Contains("0123456789abcdef", b)
		first, second, fourth, fifth := impl.CkBad, impl.CkBad, impl.CkBad, impl.CkBad
		if digit {
			first, second, fourth = impl.CkMore, impl.CkMore, impl.CkMore
		}
		if b == "\r" {
			second, fourth, fifth = impl.CkMore, impl.CkMore, impl.CkMore
		}
		checkCode(t, b, first)
		checkCode(t, "5"+b, second)
		checkCode(t, "a00"+b, fourth)
		checkCode(t, "ffff"+b, fifth)
		checkCode(t, "1\r\nx\r\n"+b, first)
		if b != "\r" {
			checkCode(t, "0"+b, impl.CkBad)
		}
	}
}

func TestLengthsThatAreNotHowManyBytesThereAre(t *testing.T) {
	for n := range 120 {
		for told := range 121 {
			want := impl.CkBad
			// The part takes up to the last line's end, or all that there is.
			if told-n == 5 || told-n >= 7 {
				want = impl.CkMore
			}
			if told != n {
				checkCode(t, fmt.Sprintf("%x\r\n%s\r\n0\r\n\r\n", told, strings.Repeat("x", n)), want)
			}
		}
	}
	checkCode(t, "4\r\nhello\r\n0\r\n\r\n", impl.CkBad)
	checkCode(t, "6\r\nhello\r\n0\r\n\r\n", impl.CkBad)
	checkCode(t, "7\r\nhello\r\n0\r\n\r\n", impl.CkBad)
	checkCode(t, "0\r\nhello\r\n0\r\n\r\n", impl.CkBad)
	checkCode(t, "50\r\nhello\r\n0\r\n\r\n", impl.CkMore)
}

func TestWrongLineEnds(t *testing.T) {
	wrong := []string{"\r", "\n", "\n\r", "\r\r\n", "\n\r\n", " \r\n", "\x00", "x", "\r\x00", "\rx", "\r\r", "\n\n", "\t\r\n", "\u0085", "\u2028", "\x0b"}
	for _, end := range wrong {
		// At the length, behind the bytes, behind the length of the end, and at
		// the end.
		checkCode(t, "2"+end+"he\r\n0\r\n\r\n", impl.CkBad)
		checkCode(t, "2\r\nhe"+end+"0\r\n\r\n", impl.CkBad)
		checkCode(t, "2\r\nhe\r\n0"+end+"\r\nz", impl.CkBad)
		checkCode(t, "2\r\nhe\r\n0\r\n"+end+"z", impl.CkBad)
		checkCode(t, "0"+end+"\r\nz", impl.CkBad)
		checkCode(t, "0\r\n"+end+"z", impl.CkBad)
	}
	// One that is missing.
	checkCode(t, "2he\r\n0\r\n\r\n", impl.CkBad)
	checkCode(t, "2\r\nhe0\r\n\r\n", impl.CkBad)
	checkCode(t, "2\r\nhe\r\n0\r\nz", impl.CkBad)
	checkCode(t, "2\r\nhe\r\n0z", impl.CkBad)
	checkCode(t, "0\r\n", impl.CkMore)
	checkCode(t, "00\r\n\r\n", impl.CkBad)
	// One too many: the bytes begin with it, or there is no length, or it is
	// behind.
	checkCode(t, "2\r\n\r\nhe\r\n0\r\n\r\n", impl.CkBad)
	checkCode(t, "2\r\nhe\r\n\r\n0\r\n\r\n", impl.CkBad)
	checkDone(t, "2\r\nhe\r\n0\r\n\r\n\r\n", "he", 12)
	checkDone(t, "4\r\n\r\nhe\r\n0\r\n\r\n", "\r\nhe", 14)
}

func TestTheFirstReasonCounts(t *testing.T) {
	most := strings.Repeat("x", impl.MaxBody)
	full := "78\r\n" + most + "\r\n"
	for _, behind := range []string{"", "x", "\r", "\r\n", "zzz", "0\r\n\r\n", "\x00", "\xff\xff", most, most + most + "zz", "1\r\nx\r\n0\r\n\r\n"} {
		// As soon as the length's line's end is there it is too long, whatever
		// is behind.
		for _, long := range []string{"79\r\n", "80\r\n", "ff\r\n", "100\r\n", "fff\r\n", "1000\r\n", "ffff\r\n"} {
			checkCode(t, long+behind, impl.CkLong)
			checkCode(t, "1\r\nx\r\n"+long+behind, impl.CkLong)
		}
		checkCode(t, full+"1\r\n"+behind, impl.CkLong)
		checkCode(t, full+"ffff\r\n"+behind, impl.CkLong)
		checkCode(t, "1\r\nx\r\n78\r\n"+behind, impl.CkLong)
		// What is bad ahead of it counts.
		checkCode(t, "079\r\n"+behind, impl.CkBad)
		checkCode(t, "10000\r\n"+behind, impl.CkBad)
		checkCode(t, "7A\r\n"+behind, impl.CkBad)
		checkCode(t, "79\n"+behind, impl.CkBad)
		checkCode(t, "1\r\nxx\r\n79\r\n"+behind, impl.CkBad)
		checkCode(t, full+"01\r\n"+behind, impl.CkBad)
		checkCode(t, full+"1\n"+behind, impl.CkBad)
		checkCode(t, "78\r\n"+most+"x\r\n1\r\n"+behind, impl.CkBad)
		checkCode(t, "78\r\n"+most+"\n\r\n1\r\n"+behind, impl.CkBad)
	}
	// Ahead of the line's end nothing is too long yet.
	for _, s := range []string{"79", "79\r", "ffff", "ffff\r", full + "1", full + "1\r", full + "ffff\r", "1\r\nx\r\n78\r", full, full + "0", full + "0\r\n", full + "0\r\n\r"} {
		checkCode(t, s, impl.CkMore)
	}
	// Where a part is cut short there is nothing behind it, not even what looks
	// like it.
	checkCode(t, "78\r\nzz\r\n00\r\nffff\r\n", impl.CkMore)
	checkCode(t, "78\r\n"+most[1:], impl.CkMore)
	checkCode(t, "78\r\n"+most, impl.CkMore)
	checkCode(t, "78\r\n"+most+"\r", impl.CkMore)
	checkCode(t, "78\r\n"+most+"x", impl.CkBad)
	checkCode(t, "78\r\n"+most+"\rx", impl.CkBad)
}

func TestReadBodiesUpToTheLimit(t *testing.T) {
	for n := range 2*impl.MaxBody + 20 {
		body := bytesFrom(n, n)
		for _, sizes := range [][]int{nil, {1}, {60}, {n - 1}, {n / 2}, {n / 3, n / 3}, {119, 1}, {120}, slices.Repeat([]int{1}, n), slices.Repeat([]int{16}, 20)} {
			s := impl.ChunkText(body, sizes)
			if n <= 120 {
				checkDone(t, s, body, len(s))
				checkDone(t, s+"x", body, len(s))
			} else {
				checkCode(t, s, impl.CkLong)
			}
		}
	}
}

func TestChunksTurnedAtEachPlace(t *testing.T) {
	letters := []string{"\r", "\n", " ", "0", "1", "9", "a", "f", "g", "A", ";", "\x00", "\xff", "\r\n"}
	for _, s := range someChunks() {
		for at := range len(s) {
			checkChunks(t, s[:at]+s[at+1:])
			for _, letter := range letters {
				checkChunks(t, s[:at]+letter+s[at:])
				checkChunks(t, s[:at]+letter+s[at+1:])
			}
		}
	}
}

func TestChunksOfAnyBytes(t *testing.T) {
	for _, s := range oddTexts() {
		checkChunks(t, s)
		checkChunks(t, s+"\r\n")
		checkChunks(t, "2\r\n"+s)
		checkChunks(t, "2\r\nhe"+s)
		checkChunks(t, "2\r\nhe\r\n"+s)
		checkChunks(t, fmt.Sprintf("%x\r\n%s\r\n0\r\n\r\n", len(s), s))
	}
	for _, s := range textsOf([]string{"0", "1", "2", "a", "A", "\r", "\n", "\r\n", "x"}, 6) {
		checkChunks(t, s)
	}
	for _, s := range []string{strings.Repeat("0", 100000), strings.Repeat("1\r\n", 100000), strings.Repeat("1\r\nx\r\n", 100000), strings.Repeat("\r\n", 100000), strings.Repeat("f", 100000), strings.Repeat("\xff", 100000)} {
		checkChunks(t, s)
	}
}

// checkGoesOn asks what the codes mean: where more is wanted some byte can
// come that is not bad, and where not no byte turns the answer.
func checkGoesOn(t *testing.T, s string) {
	t.Helper()
	body, taken, code := impl.ChunkRead(s)
	some := false
	for _, b := range []string{"0", "1", "a", "x", "\r", "\n", " ", "\xff"} {
		bodyThen, takenThen, codeThen := impl.ChunkRead(s + b)
		some = some || codeThen != impl.CkBad
		if code != impl.CkMore && (bodyThen != body || takenThen != taken || codeThen != code) {
			t.Fatalf("ChunkRead(%q) = %q, %d, %s, but with %q behind it %q, %d, %s", s, body, taken, codeWords[code], b, bodyThen, takenThen, codeWords[codeThen])
		}
	}
	if code == impl.CkMore && !some {
		t.Fatalf("ChunkRead(%q) wants more, but all is bad then", s)
	}
}

func TestWhatTheCodesMean(t *testing.T) {
	for _, s := range textsOf([]string{"0", "1", "2", "A", "\r", "\n", "x"}, 5) {
		checkGoesOn(t, s)
		checkGoesOn(t, "1\r\nx\r\n"+s)
		checkGoesOn(t, "77\r\n"+bytesFrom(0, 119)+"\r\n"+s)
	}
}

func TestSizesAreNotWrittenInto(t *testing.T) {
	for _, sizes := range oddSizes() {
		whole := append(slices.Clone(sizes), 77, 77, 77, 77)
		before := slices.Clone(whole)
		for _, body := range []string{"", "hello", bytesFrom(0, 120)} {
			impl.ChunkText(body, whole[:len(sizes):len(whole)])
			if !slices.Equal(whole, before) {
				t.Fatalf("ChunkText(%q, %d) wrote into its sizes, or their room: %d", body, sizes, whole)
			}
		}
	}
}

func TestChunkAnswersAreNewMemory(t *testing.T) {
	for _, text := range chunkBodies() {
		for _, sizes := range [][]int{nil, {1}, {0, 3, 200}, {200}, {60, 60}} {
			body := strings.Clone(text)
			s := impl.ChunkText(body, sizes)
			if shares(s, body) || shares(body, s) {
				t.Errorf("ChunkText(%q, %d) shares memory with its body", text, sizes)
			}
			read, _, _ := impl.ChunkRead(s)
			if shares(read, s) || shares(s, read) {
				t.Errorf("the body %q shares memory with what it was read from", read)
			}
			if body != text {
				t.Errorf("the body %q was turned into %q", text, body)
			}
		}
	}
}

func checkPromise4(t *testing.T, body string, sizes []int) {
	t.Helper()
	s := impl.ChunkText(body, sizes)
	if got, taken, code := impl.ChunkRead(s); got != body || taken != len(s) || code != impl.CkDone {
		t.Fatalf("ChunkRead(ChunkText(%q, %d)) = ChunkRead(%q) = %q, %d, %s", body, sizes, s, got, taken, codeWords[code])
	}
}

func TestPromise4BodiesAreReadAsTheyWereInWhateverParts(t *testing.T) {
	for _, sizes := range oddSizes() {
		for _, body := range chunkBodies() {
			checkPromise4(t, body, sizes)
		}
	}
}

func TestPromise4BodiesOfAnyBytes(t *testing.T) {
	for _, body := range oddTexts() {
		checkPromise4(t, body, nil)
		checkPromise4(t, body, []int{1})
	}
	for n := range impl.MaxBody + 1 {
		for first := range 256 {
			checkPromise4(t, bytesFrom(first, n), []int{first % 50, n - 1, 3, first})
		}
	}
}

func TestPromise4EveryCutOfAShortBody(t *testing.T) {
	for _, body := range []string{"hello!", "0\r\n\r\n0", "\r\n\r\n\r\n", "1\r\nx\r\n", "\x00\xff\xc3\xa4\r\n"} {
		for _, sizes := range sizeLists([]int{0, 1, 2, 3, 4, 5, 6, 7}, 4) {
			checkPromise4(t, body, sizes)
		}
	}
}
