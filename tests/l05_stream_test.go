package tests

import (
	"fmt"
	"math"
	"regexp"
	"runtime"
	"slices"
	"strconv"
	"strings"
	"sync"
	"testing"
	"time"

	"loop.example/g00239/impl"
)

const (
	askA = "GET /a HTTP/1.1\r\n\r\n"
	askB = "POST /b HTTP/1.1\r\ncontent-length: 2\r\n\r\nhi"
	askC = "PURGE /c HTTP/1.1\r\nlang: en\r\ncontent-length: 4\r\n\r\n\r\n\r\n"
)

var bad = impl.Stream{Bad: true}

func waits(text string) impl.Stream { return impl.Stream{Wait: text} }

var toldLength = regexp.MustCompile(`^content-length: (0|[1-9][0-9]{0,5}|1000000)$`)

// headByHand tells how many bytes the first head has, and 0 where there is no
// whole one.
func headByHand(text string) int {
	for end := 4; end <= len(text); end++ {
		if text[end-4:end] == "\x0d\x0a\x0d\x0a" {
			return end
		}
	}
	return 0
}

func numberByHand(head string) int {
	for i, line := range strings.Split(head, "\x0d\x0a") {
		if told := toldLength.FindStringSubmatch(line); i > 0 && told != nil {
			n, _ := strconv.Atoi(told[1])
			return n
		}
	}
	return 0
}

// feedByHand does what the document says of Feed, word by word.
func feedByHand(s impl.Stream, piece string) (impl.Stream, []impl.Req) {
	if s.Bad {
		return bad, nil
	}
	var told []impl.Req
	wait := s.Wait + piece
	for {
		head := headByHand(wait)
		number := numberByHand(wait[:head])
		if number > 120 {
			return bad, told
		}
		if head == 0 || head+number > len(wait) {
			break
		}
		r, ok := reqByHand(wait[:head+number])
		if !ok {
			return bad, told
		}
		told = append(told, r)
		wait = wait[head+number:]
	}
	if len(wait) > 1200 {
		return bad, told
	}
	return waits(wait), told
}

func sameReqs(a, b []impl.Req) bool { return slices.EqualFunc(a, b, sameReq) }

func checkFeed(t *testing.T, s impl.Stream, piece string) {
	t.Helper()
	want, wantTold := feedByHand(s, piece)
	got, told := impl.Feed(s, piece)
	if got != want || !sameReqs(told, wantTold) {
		t.Fatalf("Feed(%#v, %q) = %#v, %#v, not %#v, %#v", s, piece, got, told, want, wantTold)
	}
}

// checkTold is for what is told without any reader: by the paths.
func checkTold(t *testing.T, s impl.Stream, piece string, want impl.Stream, paths ...string) {
	t.Helper()
	got, told := impl.Feed(s, piece)
	if got != want || !slices.Equal(pathsOf(told), paths) {
		t.Fatalf("Feed(%#v, %q) = %#v, %q, not %#v, %q", s, piece, got, pathsOf(told), want, paths)
	}
	checkFeed(t, s, piece)
}

func pathsOf(told []impl.Req) []string {
	var paths []string
	for _, r := range told {
		paths = append(paths, r.Path)
	}
	return paths
}

func textOfReqs(list []impl.Req) string {
	out := ""
	for _, r := range list {
		out += reqTextByHand(r)
	}
	return out
}

// someReqs are requests of all kinds, few enough to go through each cut of
// them.
func someReqs() []impl.Req {
	var all []impl.Req
	lists := messageLists()
	for i, body := range rightBodies() {
		all = append(all, impl.Req{Method: 1 + i%4, Path: rightPaths()[i%len(rightPaths())], Fields: lists[i%len(lists)], Body: body})
	}
	return all
}

func TestStreamLimits(t *testing.T) {
	if impl.MaxHead != 1200 {
		t.Error("MaxHead", impl.MaxHead)
	}
}

func TestFeed(t *testing.T) {
	none := impl.Stream{}
	checkTold(t, none, "", none)
	checkTold(t, none, "G", waits("G"))
	checkTold(t, none, askA, none, "/a")
	checkTold(t, none, askB, none, "/b")
	checkTold(t, none, askA+askB, none, "/a", "/b")
	checkTold(t, none, askB+askA+askB+askC, none, "/b", "/a", "/b", "/c")
	checkTold(t, none, askA+"GET /b", waits("GET /b"), "/a")
	checkTold(t, none, askA+askB[:len(askB)-1], waits(askB[:len(askB)-1]), "/a")
	checkTold(t, waits(askB[:len(askB)-1]), "i", none, "/b")
	checkTold(t, waits(askB[:len(askB)-1]), "i"+askA+"x", waits("x"), "/b", "/a")
	checkTold(t, waits(askA[:len(askA)-1]), "\n", none, "/a")
	checkTold(t, waits(askA[:len(askA)-1]), "", waits(askA[:len(askA)-1]))
	checkTold(t, waits(askA[:4]), askA[4:8], waits(askA[:8]))
	checkTold(t, none, "x\r\n\r\n", bad)
	checkTold(t, none, askA+"x\r\n\r\n"+askA, bad, "/a")
	checkTold(t, bad, askA, bad)
	// Line's ends alone are a head, too.
	checkTold(t, none, "\r\n\r", waits("\r\n\r"))
	checkTold(t, none, "\r\n\r\n", bad)
	checkTold(t, none, askA+"\r\n"+askA, bad, "/a")
	checkTold(t, none, "\r\n"+askA, bad)
	checkTold(t, none, "GET /a HTTP/1.1\n\n", waits("GET /a HTTP/1.1\n\n"))
	checkTold(t, none, "GET /a HTTP/1.1\r\n\n\r\n\r", waits("GET /a HTTP/1.1\r\n\n\r\n\r"))
}

func TestFeedTellsWholeRequests(t *testing.T) {
	for _, r := range rightReqs() {
		text := reqTextByHand(r)
		if s, told := impl.Feed(impl.Stream{}, text); s != (impl.Stream{}) || len(told) != 1 || !sameReq(told[0], r) {
			t.Fatalf("Feed of %q = %#v, %#v", text, s, told)
		}
	}
	all := someReqs()
	if s, told := impl.Feed(impl.Stream{}, textOfReqs(all)); s != (impl.Stream{}) || !sameReqs(told, all) {
		t.Errorf("Feed of %d requests in one piece = %#v, %d", len(all), s, len(told))
	}
	if s, told := impl.Feed(waits(textOfReqs(all)), textOfReqs(all)); s != (impl.Stream{}) || !sameReqs(told, slices.Concat(all, all)) {
		t.Errorf("Feed of %d requests that wait and as many that come = %#v, %d", len(all), s, len(told))
	}
}

// A request is told with its last byte, and not one byte ahead of it.
func TestFeedByteByByte(t *testing.T) {
	all := append(someReqs(), someReqs()...)
	var s impl.Stream
	for _, r := range all {
		text := reqTextByHand(r)
		for at := range len(text) {
			next, told := impl.Feed(s, text[at:at+1])
			want, wantTold := waits(text[:at+1]), []impl.Req(nil)
			if at == len(text)-1 {
				want, wantTold = impl.Stream{}, []impl.Req{r}
			}
			if next != want || !sameReqs(told, wantTold) {
				t.Fatalf("Feed(%#v, %q) = %#v, %#v", s, text[at:at+1], next, told)
			}
			s = next
		}
	}
}

func TestFeedCutAtEachPlace(t *testing.T) {
	for i, r := range someReqs() {
		behind := someReqs()[(i+1)%len(someReqs())]
		first, second := reqTextByHand(r), reqTextByHand(behind)
		text := first + second
		for cut := range len(text) + 1 {
			wait := impl.Stream{Wait: text[:cut]}
			var wantTold []impl.Req
			if cut >= len(first) {
				wait.Wait = text[len(first):cut]
				wantTold = append(wantTold, r)
			}
			if cut == len(text) {
				wait.Wait = ""
				wantTold = append(wantTold, behind)
			}
			s, told := impl.Feed(impl.Stream{}, text[:cut])
			if s != wait || !sameReqs(told, wantTold) {
				t.Fatalf("Feed of %q = %#v, %#v", text[:cut], s, told)
			}
			s, more := impl.Feed(s, text[cut:])
			if s != (impl.Stream{}) || !sameReqs(append(told, more...), []impl.Req{r, behind}) {
				t.Fatalf("Feed of %q behind %q = %#v, %#v behind %#v", text[cut:], text[:cut], s, more, told)
			}
		}
	}
}

// openHead is a head of n bytes that is not whole.
func openHead(n int) string {
	start := "GET /a HTTP/1.1\r\na: "
	return start + strings.Repeat("x", n-len(start))
}

func TestFeedUpToMaxHead(t *testing.T) {
	for n := 1150; n <= 1300; n++ {
		for _, text := range []string{openHead(n), strings.Repeat("x", n), strings.Repeat("\r", n), strings.Repeat("\xff", n), strings.Repeat("\r\n\r", n)[:n], openHead(n-3) + "\r\n\r"} {
			want := waits(text)
			if n > 1200 {
				want = bad
			}
			checkTold(t, impl.Stream{}, text, want)
			checkTold(t, waits(text[:n/2]), text[n/2:], want)
			checkTold(t, waits(text[:n-1]), text[n-1:], want)
			checkTold(t, waits(text[:1]), text[1:], want)
			checkTold(t, waits(text), "", want)
			checkTold(t, impl.Stream{}, askA+askB+text, want, "/a", "/b")
			checkTold(t, waits(askA+askB[:7]), askB[7:]+text, want, "/a", "/b")
			// Whole it is a longer one than any that is right.
			checkTold(t, impl.Stream{}, text+"\r\n\r\n", bad)
			checkTold(t, waits(text), "\r\n\r\n", bad)
			checkTold(t, waits(text), "\r\n\r\n"+askA, bad)
			checkTold(t, impl.Stream{}, askA+text+"\r\n\r\n"+askB, bad, "/a")
		}
	}
	// What is taken away does not count, and so does not how much came.
	for _, many := range []int{10, 100, 3000} {
		text := strings.Repeat(askA+askB, many)
		s, told := impl.Feed(waits(text), text+openHead(1200))
		if s != waits(openHead(1200)) || len(told) != 4*many {
			t.Errorf("Feed of %d requests and a head of 1200 bytes = %#v, %d", 4*many, s, len(told))
		}
		if s, told := impl.Feed(waits(text), text+openHead(1201)); s != bad || len(told) != 4*many {
			t.Errorf("Feed of %d requests and a head of 1201 bytes = %#v, %d", 4*many, s, len(told))
		}
	}
}

// The whole one that is waited for is a head with its body.
func TestFeedUpToMaxHeadWithABodyToCome(t *testing.T) {
	for _, head := range []int{1081, 1100, 1150, 1198, 1199, 1200} {
		last := "\r\ncontent-length: 120\r\n\r\n"
		text := openHead(head-len(last)) + last + strings.Repeat("y", 119)
		for n := head; n <= len(text); n++ {
			want := waits(text[:n])
			if n > 1200 {
				want = bad
			}
			checkTold(t, impl.Stream{}, text[:n], want)
			checkTold(t, waits(text[:n-1]), text[n-1:n], want)
			checkTold(t, waits(askA), text[:n], want, "/a")
		}
		checkTold(t, impl.Stream{}, text+"y", bad)
	}
}

func TestFeedBodiesUpToMaxBody(t *testing.T) {
	for n := range 3 * impl.MaxBody {
		head := fmt.Sprintf("POST /b HTTP/1.1\r\ncontent-length: %d\r\n\r\n", n)
		body := bytesFrom(n, n)
		switch {
		case n == 0:
			// There is no line of no bytes in a right text.
			checkTold(t, impl.Stream{}, head, bad)
		case n <= 120:
			checkTold(t, impl.Stream{}, head, waits(head))
			checkTold(t, impl.Stream{}, head+body[:n-1], waits(head+body[:n-1]))
			checkTold(t, impl.Stream{}, head+body, impl.Stream{}, "/b")
			checkTold(t, waits(head+body[:n-1]), body[n-1:]+askA, impl.Stream{}, "/b", "/a")
			checkTold(t, impl.Stream{}, askA+head+body+"\r\n", waits("\r\n"), "/a", "/b")
		default:
			// It is not waited for.
			for _, behind := range []string{"", body[:1], body[:n-1], body, body + askA} {
				checkTold(t, impl.Stream{}, head+behind, bad)
				checkTold(t, impl.Stream{}, askA+head+behind, bad, "/a")
			}
			checkTold(t, waits(head[:len(head)-1]), "", waits(head[:len(head)-1]))
			checkTold(t, waits(head[:len(head)-1]), "\n", bad)
		}
	}
	for _, n := range []int{1000, 65536, 999999, impl.MaxTime} {
		checkTold(t, impl.Stream{}, fmt.Sprintf("POST /b HTTP/1.1\r\ncontent-length: %d\r\n\r\n", n), bad)
	}
}

// checkNumber asks how many bytes are waited for behind a head that is wrong:
// as many, and it is bad with the last one of them.
func checkNumber(t *testing.T, head string, number int) {
	t.Helper()
	for n := range number {
		checkTold(t, impl.Stream{}, head+strings.Repeat("x", n), waits(head+strings.Repeat("x", n)))
		checkTold(t, waits(head), strings.Repeat("x", n), waits(head+strings.Repeat("x", n)))
	}
	for _, behind := range []string{"", "x", askA} {
		checkTold(t, impl.Stream{}, head+strings.Repeat("x", number)+behind, bad)
		checkTold(t, waits(head), strings.Repeat("x", number)+behind, bad)
		checkTold(t, impl.Stream{}, askA+head+strings.Repeat("x", number)+behind, bad, "/a")
	}
}

func TestWhichNumberCounts(t *testing.T) {
	first := "POST /b HTTP/1.1\r\n"
	five := "content-length: 5\r\n"
	// A first line that looks so is none.
	checkNumber(t, five+"\r\n", 0)
	checkNumber(t, "content-length: 121\r\n\r\n", 0)
	checkNumber(t, "content-length: 7\r\n"+five+"\r\n", 5)
	checkNumber(t, "content-length: 7\r\na: 1\r\n\r\n", 0)
	// But behind it the empty one is a line as any.
	checkNumber(t, "\r\n"+five+"\r\n", 5)
	checkNumber(t, "x\r\n"+five+"\r\n", 5)
	// Of several the first one counts, wherever it stands.
	checkNumber(t, first+five+"content-length: 7\r\n\r\n", 5)
	checkNumber(t, first+five+"content-length: 121\r\n\r\n", 5)
	checkNumber(t, first+five+five+"\r\n", 5)
	checkNumber(t, first+five+"a: 1\r\n\r\n", 5)
	checkNumber(t, first+"a: 1\r\n"+five+"b: 2\r\ncontent-length: 9\r\n\r\n", 5)
	checkNumber(t, first+"content-length: 0\r\n"+five+"\r\n", 0)
	checkNumber(t, first+strings.Repeat("a: 1\r\n", 100)+five+"\r\n", 5)
	checkTold(t, impl.Stream{}, first+"content-length: 121\r\n"+five+"\r\n", bad)
	checkTold(t, impl.Stream{}, first+"content-length: x\r\ncontent-length: 121\r\n\r\n", bad)
	// One whose number is none is passed by.
	for _, none := range []string{
		"", " ", "0 ", " 0", "x", "-1", "+1", "05", "00", "0005", " 5", "5 ", "5.", "5,", "5;", "0x5", "5x", "x5", "5 5", "1000001", "9999999", "18446744073709551621", "\uff15", "5\x00", "\x005", "5\r", "\r5", "5\n", "\n5", "\n", "\r",
		"content-length: 5", ": 5", strings.Repeat("9", 300), strings.Repeat("0", 100) + "5",
	} {
		line := "content-length: " + none + "\r\n"
		checkNumber(t, first+line+"\r\n", 0)
		checkNumber(t, first+line+five+"\r\n", 5)
		checkNumber(t, first+line+"a: 1\r\n"+five+line+"\r\n", 5)
	}
	// And so is what only looks like one.
	for _, line := range []string{
		"content-length:5", "content-length:  5", "content-length : 5", "content-length 5", "content-length", "content-length:", "Content-Length: 5", "CONTENT-LENGTH: 5", " content-length: 5", "\ncontent-length: 5", "\rcontent-length: 5", "\tcontent-length: 5",
		"x-content-length: 5", "content-lengths: 5", "content-lengt: 5", "a: content-length: 5", "content-length:\t5", "content_length: 5", "5", ": 5", "lang: 5", "\x00content-length: 5",
	} {
		checkNumber(t, "x\r\n"+line+"\r\n\r\n", 0)
		checkNumber(t, "x\r\n"+line+"\r\ncontent-length: 3\r\n\r\n", 3)
	}
}

func TestWhatIsBehindTheHeadIsNoHead(t *testing.T) {
	for _, body := range []string{askA, askB, "content-length: 99\r\n\r\n", "\r\n\r\n\r\n\r\n", "\r\ncontent-length: 1\r\n\r\n", "content-length: 121\r\n\r\n", "x\r\n\r\n", "\r\n", "a: 1\r\n\r\n"} {
		r := impl.Req{Method: impl.MtPost, Path: "/b", Body: body}
		text := reqTextByHand(r)
		for n := len(text) - len(body); n < len(text); n++ {
			checkTold(t, impl.Stream{}, text[:n], waits(text[:n]))
		}
		checkTold(t, impl.Stream{}, text, impl.Stream{}, "/b")
		checkTold(t, impl.Stream{}, text+askA, impl.Stream{}, "/b", "/a")
		if s, told := impl.Feed(waits(text[:20]), text[20:]); s != (impl.Stream{}) || len(told) != 1 || !sameReq(told[0], r) {
			t.Errorf("Feed of %q = %#v, %#v", text, s, told)
		}
	}
	// Without a number the body is the next one's head.
	checkTold(t, impl.Stream{}, "POST /b HTTP/1.1\r\n\r\nhi", waits("hi"), "/b")
	checkTold(t, impl.Stream{}, "POST /b HTTP/1.1\r\n\r\ncontent-length: 2\r\n\r\nhi", bad, "/b")
	checkTold(t, impl.Stream{}, "POST /b HTTP/1.1\r\n\r\n\r\n\r\n", bad, "/b")
}

// wrongTexts are bad as soon as they are whole, by each of the reasons.
func wrongTexts() []string {
	all := []string{
		"\r\n\r\n", "x\r\n\r\n", "GET /a HTTP/1.0\r\n\r\n", "get /a HTTP/1.1\r\n\r\n", "GET a HTTP/1.1\r\n\r\n", " " + askA, "\r\n" + askA, "GET /a HTTP/1.1\r\na:1\r\n\r\n", "GET /a HTTP/1.1\r\na: 1\r\na: 2\r\n\r\n",
		"POST /b HTTP/1.1\r\ncontent-length: 0\r\n\r\n", "POST /b HTTP/1.1\r\ncontent-length: 02\r\n\r\nhi", "POST /b HTTP/1.1\r\ncontent-length: 2\r\na: 1\r\n\r\nhi", "POST /b HTTP/1.1\r\ncontent-length: 2\r\ncontent-length: 2\r\n\r\nhi",
		"POST /b HTTP/1.1\r\ncontent-length: 121\r\n\r\n", "POST /b HTTP/1.1\r\ncontent-length: 1000000\r\n\r\nhi", "POST /b HTTP/1.1\r\ncontent-length: 1000001\r\n\r\nhi", "\xff\r\n\r\n", "\x00\r\n\r\n",
		openHead(1201), strings.Repeat("x", 1201), strings.Repeat("\r", 5000), openHead(1300) + "\r\n\r\n", "HTTP/1.1 200 .\r\ncontent-length: 0\r\n\r\n", "HTTP/1.1 200 .\r\ncontent-length: 2\r\n\r\nhi",
		"GET /a HTTP/1.1\r\n" + impl.FieldsText(manyFields(9)) + "\r\n", "GET /" + strings.Repeat("a", 60) + " HTTP/1.1\r\n\r\n",
	}
	for _, r := range wrongReqs() {
		// With a length among its fields it would be waited for.
		if text := reqTextByHand(r); r.Body == "" && indexOfName(r.Fields, "content-length") < 0 {
			all = append(all, text)
		}
	}
	return all
}

func TestWhatIsBad(t *testing.T) {
	for _, wrong := range wrongTexts() {
		checkTold(t, impl.Stream{}, wrong, bad)
		checkTold(t, waits(wrong), "", bad)
		checkTold(t, waits(wrong[:1]), wrong[1:], bad)
		// What was told ahead of it stays told, and nothing is told behind it.
		for _, behind := range []string{"", "x", askA, askB + askA, "\r\n\r\n"} {
			checkTold(t, impl.Stream{}, askA+askB+wrong+behind, bad, "/a", "/b")
			checkTold(t, waits(askA+askB[:5]), askB[5:]+wrong+behind, bad, "/a", "/b")
			s, _ := impl.Feed(impl.Stream{}, wrong)
			checkTold(t, s, behind, bad)
		}
	}
}

func TestBadAhead(t *testing.T) {
	texts := []string{"", "x", askA, askA + askB, askB[:9], "\r\n\r\n", strings.Repeat("x", 1200), strings.Repeat("x", 1201), "\xff"}
	for _, wait := range texts {
		for _, piece := range texts {
			checkTold(t, impl.Stream{Wait: wait, Bad: true}, piece, bad)
			s, told := impl.FeedAll(impl.Stream{Wait: wait, Bad: true}, []string{piece, piece})
			if s != bad || len(told) != 0 {
				t.Errorf("FeedAll of a bad one that has %q, and of %q = %#v, %#v", wait, piece, s, told)
			}
		}
	}
}

func TestWholeOnesThatWait(t *testing.T) {
	checkTold(t, waits(askA), "", impl.Stream{}, "/a")
	checkTold(t, waits(askA+askB), "", impl.Stream{}, "/a", "/b")
	checkTold(t, waits(askA+askB), "x", waits("x"), "/a", "/b")
	checkTold(t, waits(askA+askB[:3]), "", waits(askB[:3]), "/a")
	checkTold(t, waits(askA+askB[:3]), askB[3:]+askC, impl.Stream{}, "/a", "/b", "/c")
	checkTold(t, waits(askA+"x\r\n\r\n"+askB), "", bad, "/a")
	checkTold(t, waits(strings.Repeat(askA, 3)), askA, impl.Stream{}, "/a", "/a", "/a", "/a")
	long := strings.Repeat(askA, 100)
	if s, told := impl.Feed(waits(long), "x"); s != waits("x") || len(told) != 100 {
		t.Errorf("Feed of 100 requests that wait = %#v, %d", s, len(told))
	}
}

func TestFeedOfAnyBytes(t *testing.T) {
	for _, text := range oddTexts() {
		checkFeed(t, impl.Stream{}, text)
		checkFeed(t, waits(text), text)
		checkFeed(t, impl.Stream{}, text+"\r\n\r\n")
		checkFeed(t, waits(askA+text), askA)
		checkFeed(t, impl.Stream{}, "GET /"+text+" HTTP/1.1\r\n\r\n"+askB)
		checkFeed(t, waits("POST / HTTP/1.1\r\ncontent-length: "), text+"\r\n\r\n"+text)
		checkFeed(t, impl.Stream{}, fmt.Sprintf("POST / HTTP/1.1\r\ncontent-length: %d\r\n\r\n", len(text))+text+askA)
		if s, told := impl.Feed(impl.Stream{}, text); s != waits(text) || len(told) != 0 {
			t.Fatalf("Feed of %q = %#v, %#v", text, s, told)
		}
	}
	for _, text := range []string{strings.Repeat("\r\n", 100000), strings.Repeat("a: 1\r\n", 100000), strings.Repeat("content-length: x\r\n", 100000), strings.Repeat("\xff", 100000), strings.Repeat("\r\n\r", 100000)} {
		checkTold(t, impl.Stream{}, text, bad)
		checkTold(t, impl.Stream{}, askA+text, bad, "/a")
		checkTold(t, impl.Stream{}, text+"\r\n\r\n", bad)
	}
}

// lineParts make, in every order, heads whole and open, with right and wrong
// numbers, and bytes behind them.
func lineParts() []string {
	return []string{"GET /a HTTP/1.1\r\n", "a: 1\r\n", "content-length: 1\r\n", "content-length: 121\r\n", "content-length: 01\r\n", "\r\n", "x", "\r", "\n"}
}

func TestFeedOfAllOrdersOfLines(t *testing.T) {
	for _, text := range textsOf(lineParts(), 5) {
		checkFeed(t, impl.Stream{}, text)
		checkFeed(t, waits("GET /a HTTP/1.1\r\n"), text)
		checkFeed(t, waits(askB[:len(askB)-2]), text)
	}
}

func TestFeedOfTextsTurnedAtEachPlace(t *testing.T) {
	letters := []string{"\r", "\n", " ", ":", "0", "1", "a", "A", "\x00", "\xff", "\r\n", "\r\n\r\n"}
	for _, s := range []string{askA + askB + askC, askC + askA, askB + askB} {
		for at := range len(s) {
			checkFeed(t, waits(s[:at]), s[at+1:])
			for _, letter := range letters {
				checkFeed(t, waits(s[:at]), letter+s[at:])
				checkFeed(t, waits(s[:at]+letter), s[at+1:])
			}
		}
	}
}

func TestPieces(t *testing.T) {
	for _, c := range []struct {
		text  string
		sizes []int
		want  []string
	}{
		{"", nil, nil}, {"", []int{}, nil}, {"hello", nil, []string{"hello"}}, {"hello", []int{}, []string{"hello"}},
		{"hello", []int{2}, []string{"he", "llo"}}, {"hello", []int{2, 2}, []string{"he", "ll", "o"}}, {"hello", []int{1, 1, 1, 1}, []string{"h", "e", "l", "l", "o"}},
		{"hello", []int{5}, []string{"hello"}}, {"hello", []int{2, 3}, []string{"he", "llo"}}, {"hello", []int{1, 1, 1, 1, 1}, []string{"h", "e", "l", "l", "o"}},
		{"hello", []int{0}, []string{"", "hello"}}, {"hello", []int{-1}, []string{"", "hello"}}, {"hello", []int{math.MinInt, 2}, []string{"", "he", "llo"}},
		{"hello", []int{3, -1, 1}, []string{"hel", "", "l", "o"}}, {"hello", []int{2, 0, 0, 3}, []string{"he", "", "", "llo"}}, {"hello", []int{5, 0}, []string{"hello", ""}}, {"hello", []int{5, -1}, []string{"hello", ""}},
		{"hello", []int{6}, []string{"hello"}}, {"hello", []int{2, 9}, []string{"he", "llo"}}, {"hello", []int{2, 9, 1}, []string{"he", "llo", ""}}, {"hello", []int{5, 5, 5}, []string{"hello", "", ""}},
		{"hello", []int{math.MaxInt}, []string{"hello"}}, {"hello", []int{1, math.MaxInt, math.MaxInt}, []string{"h", "ello", ""}}, {"hello", []int{math.MaxInt, math.MaxInt, 1}, []string{"hello", "", ""}},
		{"hello", []int{1, math.MaxInt, 1, math.MinInt}, []string{"h", "ello", "", ""}}, {"hello", []int{-3, 4}, []string{"", "hell", "o"}}, {"hello", []int{math.MinInt, math.MinInt}, []string{"", "", "hello"}},
		{"", []int{0}, []string{""}}, {"", []int{1, -1}, []string{"", ""}}, {"", []int{math.MaxInt}, []string{""}},
		{"\u00e4", []int{1}, []string{"\xc3", "\xa4"}}, {"\r\n\r\n", []int{1, 2}, []string{"\r", "\n\r", "\n"}}, {"\x00\xff", []int{1, 1}, []string{"\x00", "\xff"}},
	} {
		if got := impl.Pieces(c.text, c.sizes); !slices.Equal(got, c.want) {
			t.Errorf("Pieces(%q, %d) = %q, not %q", c.text, c.sizes, got, c.want)
		}
	}
}

// piecesByHand deals out the bytes one by one.
func piecesByHand(text string, sizes []int) []string {
	pieces := make([]string, len(sizes), len(sizes)+1)
	at := 0
	for i, size := range sizes {
		for len(pieces[i]) < size && at < len(text) {
			pieces[i] += text[at : at+1]
			at++
		}
	}
	if at < len(text) {
		pieces = append(pieces, text[at:])
	}
	return pieces
}

func TestPiecesOfAllSizes(t *testing.T) {
	for _, sizes := range append(oddSizes(), sizeLists([]int{-1, 0, 1, 2, 5, 6}, 4)...) {
		for _, text := range []string{"", "x", "hello", "hello world", askB, bytesFrom(0, 120), bytesFrom(9, 121)} {
			if got, want := impl.Pieces(text, sizes), piecesByHand(text, sizes); !slices.Equal(got, want) {
				t.Fatalf("Pieces(%q, %d) = %q, not %q", text, sizes, got, want)
			}
		}
	}
	for _, text := range oddTexts() {
		for _, sizes := range [][]int{nil, {1}, {-1, 2}, {1, 1, 1, 1, 1}} {
			if got, want := impl.Pieces(text, sizes), piecesByHand(text, sizes); !slices.Equal(got, want) {
				t.Fatalf("Pieces(%q, %d) = %q, not %q", text, sizes, got, want)
			}
		}
	}
	long := strings.Repeat("hello", 200000)
	if got := impl.Pieces(long, slices.Repeat([]int{7}, 10)); len(got) != 11 || strings.Join(got, "") != long {
		t.Errorf("Pieces of %d bytes by 10 sizes: %d", len(long), len(got))
	}
	if got := impl.Pieces("ab", slices.Repeat([]int{0, math.MinInt}, 100000)); len(got) != 200001 || got[200000] != "ab" {
		t.Errorf("Pieces by 200000 sizes: %d", len(got))
	}
}

// feedInTurn is what FeedAll says, by Feed alone.
func feedInTurn(s impl.Stream, pieces []string) (impl.Stream, []impl.Req) {
	var all []impl.Req
	for _, piece := range pieces {
		next, told := feedByHand(s, piece)
		s = next
		all = append(all, told...)
	}
	return s, all
}

func checkFeedAll(t *testing.T, s impl.Stream, pieces []string) {
	t.Helper()
	want, wantTold := feedInTurn(s, pieces)
	got, told := impl.FeedAll(s, pieces)
	if got != want || !sameReqs(told, wantTold) {
		t.Fatalf("FeedAll(%#v, %q) = %#v, %#v, not %#v, %#v", s, pieces, got, told, want, wantTold)
	}
}

// startStreams are of all kinds, whole requests and too many bytes that wait
// among them.
func startStreams() []impl.Stream {
	return []impl.Stream{
		{}, waits("G"), waits("GET /a HTTP/1.1\r\n"), waits(askB[:len(askB)-1]), waits("x"), waits("\r\n\r"), waits("\xff"), waits(askA), waits(askA + askB[:8]), waits("x\r\n\r\n"),
		waits(openHead(1200)), waits(openHead(1201)), bad, {Wait: askA, Bad: true}, {Wait: "x", Bad: true}, {Wait: openHead(1300), Bad: true},
	}
}

func TestFeedAllOfNoPieces(t *testing.T) {
	for _, s := range startStreams() {
		for _, pieces := range [][]string{nil, {}, make([]string, 0, 4)} {
			if got, told := impl.FeedAll(s, pieces); got != s || len(told) != 0 {
				t.Errorf("FeedAll of no pieces of %#v = %#v, %#v", s, got, told)
			}
		}
	}
}

func TestFeedAll(t *testing.T) {
	for _, c := range []struct {
		pieces []string
		want   impl.Stream
		paths  []string
	}{
		{[]string{""}, impl.Stream{}, nil}, {[]string{"", "", ""}, impl.Stream{}, nil}, {[]string{"G"}, waits("G"), nil}, {[]string{"G", "E"}, waits("GE"), nil},
		{[]string{askA}, impl.Stream{}, []string{"/a"}}, {[]string{askA, askB, askC}, impl.Stream{}, []string{"/a", "/b", "/c"}}, {[]string{askC + askB, askA}, impl.Stream{}, []string{"/c", "/b", "/a"}},
		{[]string{askA[:5], askA[5:]}, impl.Stream{}, []string{"/a"}}, {[]string{askA + askB[:9], "", askB[9:] + "x"}, waits("x"), []string{"/a", "/b"}},
		{[]string{askA, "x\r\n\r\n", askB}, bad, []string{"/a"}}, {[]string{"x\r\n\r\n", askA, askB}, bad, nil}, {[]string{askA, askB, "\r\n\r\n"}, bad, []string{"/a", "/b"}},
		{[]string{openHead(1200), "x", askA}, bad, nil}, {[]string{openHead(1200), ""}, waits(openHead(1200)), nil}, {[]string{askA, openHead(1200)[:700], openHead(1201)[700:]}, bad, []string{"/a"}},
	} {
		if got, told := impl.FeedAll(impl.Stream{}, c.pieces); got != c.want || !slices.Equal(pathsOf(told), c.paths) {
			t.Errorf("FeedAll of %q = %#v, %q, not %#v, %q", c.pieces, got, pathsOf(told), c.want, c.paths)
		}
	}
	for _, s := range startStreams() {
		for _, pieces := range [][]string{{""}, {"", ""}, {askA}, {"\n", askB}, {"i", askC, askA[:4]}, {askA[4:], askA}, {"\r\n", askC}, {openHead(600), openHead(601)}, {"x\r\n\r\n", askA}, {askB, "\xff", "\x00"}} {
			checkFeedAll(t, s, pieces)
		}
	}
	for _, text := range oddTexts()[:2000] {
		checkFeedAll(t, waits(askA[:6]), []string{text, askA[6:], text, askB})
	}
}

func TestFeedAllOfManyPieces(t *testing.T) {
	all := slices.Repeat(someReqs(), 20)
	text := textOfReqs(all)
	if s, told := impl.FeedAll(impl.Stream{}, strings.Split(text, "")); s != (impl.Stream{}) || !sameReqs(told, all) {
		t.Errorf("FeedAll of %d requests rune by rune = %#v, %d", len(all), s, len(told))
	}
	if s, told := impl.FeedAll(impl.Stream{}, impl.Pieces(text, slices.Repeat([]int{1}, len(text)))); s != (impl.Stream{}) || !sameReqs(told, all) {
		t.Errorf("FeedAll of %d requests byte by byte = %#v, %d", len(all), s, len(told))
	}
	if s, told := impl.FeedAll(bad, make([]string, 100000)); s != bad || len(told) != 0 {
		t.Errorf("FeedAll of 100000 empty pieces = %#v, %d", s, len(told))
	}
}

// What is told hangs on no other call that runs at the same time, and nothing
// of a call goes on behind it.
func TestFeedAllSideBySide(t *testing.T) {
	before := runtime.NumGoroutine()
	all := someReqs()
	text := textOfReqs(all)
	var joined sync.WaitGroup
	for worker := range 16 {
		joined.Go(func() {
			for round := range 10 {
				pieces := impl.Pieces(text+askA[:worker], slices.Repeat([]int{worker*round + 1}, 300))
				if s, told := impl.FeedAll(impl.Stream{}, pieces); s != waits(askA[:worker]) || !sameReqs(told, all) {
					t.Errorf("FeedAll by %d bytes = %#v, %d", worker*round+1, s, len(told))
				}
			}
		})
	}
	joined.Wait()
	for range 1000 {
		if runtime.NumGoroutine() <= before {
			return
		}
		// One that has said that it is done may still be there for a moment.
		time.Sleep(time.Millisecond)
	}
	t.Errorf("%d goroutines are left, of %d ahead", runtime.NumGoroutine(), before)
}

func TestPieceListsAreNotWrittenInto(t *testing.T) {
	for _, pieces := range [][]string{{}, {""}, {askA}, {askA, askB[:5], askB[5:]}, {"x\r\n\r\n", askA}, {openHead(1201), askA}} {
		for _, s := range startStreams() {
			whole := append(slices.Clone(pieces), "room", "room", "room", "room")
			before := slices.Clone(whole)
			impl.FeedAll(s, whole[:len(pieces):len(whole)])
			if !slices.Equal(whole, before) {
				t.Fatalf("FeedAll(%#v, %q) wrote into its pieces, or their room: %q", s, pieces, whole)
			}
		}
	}
	for _, sizes := range oddSizes() {
		whole := append(slices.Clone(sizes), 77, 77, 77, 77)
		before := slices.Clone(whole)
		for _, text := range []string{"", "hello", bytesFrom(0, 120)} {
			impl.Pieces(text, whole[:len(sizes):len(whole)])
			if !slices.Equal(whole, before) {
				t.Fatalf("Pieces(%q, %d) wrote into its sizes, or their room: %d", text, sizes, whole)
			}
		}
	}
}

// streamShares asks all texts of an answer.
func streamShares(s impl.Stream, told []impl.Req, arguments ...string) bool {
	list := fieldsOf("", s.Wait)
	for _, r := range told {
		list = append(append(list, r.Fields...), impl.Field{Name: r.Path, Value: r.Body})
	}
	return sharesAny(list, arguments...)
}

func TestStreamAnswersAreNewMemory(t *testing.T) {
	texts := []string{"", "GET /a", askA, askB[:len(askB)-1], askA + askB, askC + askA[:5], askC, "x\r\n\r\n", askA + openHead(1100), openHead(1200)}
	for _, front := range texts {
		for _, behind := range texts {
			wait, piece := strings.Clone(front), strings.Clone(behind)
			if s, told := impl.Feed(waits(wait), piece); streamShares(s, told, wait, piece) {
				t.Errorf("Feed(%q, %q) shares memory with its arguments", front, behind)
			}
			for _, pieces := range [][]string{nil, {piece}, {piece, ""}, {"", piece}, {piece, piece}} {
				for _, isBad := range []bool{false, true} {
					if s, told := impl.FeedAll(impl.Stream{Wait: wait, Bad: isBad}, pieces); streamShares(s, told, wait, piece) {
						t.Errorf("FeedAll(%q, %q) shares memory with its arguments", front, pieces)
					}
				}
			}
			if wait != front || piece != behind {
				t.Errorf("%q, %q were turned into %q, %q", front, behind, wait, piece)
			}
		}
		for _, sizes := range [][]int{nil, {1}, {0, 3, 200}, {5000}, {len(front)}, {3, math.MaxInt}} {
			text := strings.Clone(front)
			for _, piece := range impl.Pieces(text, sizes) {
				if shares(piece, text) {
					t.Errorf("Pieces(%q, %d) shares memory with the text", front, sizes)
				}
			}
		}
	}
}

// No two lists of one answer share any memory, nor do two answers.
func TestToldListsAreTheirOwn(t *testing.T) {
	all := slices.Repeat(someReqs(), 3)
	text := textOfReqs(all)
	pieces := impl.Pieces(text, slices.Repeat([]int{100}, 20))
	_, other := impl.FeedAll(impl.Stream{}, pieces)
	_, whole := impl.Feed(impl.Stream{}, text)
	for _, again := range []func() []impl.Req{
		func() []impl.Req { _, told := impl.Feed(impl.Stream{}, text); return told },
		func() []impl.Req { _, told := impl.FeedAll(impl.Stream{}, pieces); return told },
	} {
		for i := range all {
			told := again()
			turnAll(told[i].Fields)
			told[i] = all[i]
			if !sameReqs(told, all) || !sameReqs(other, all) || !sameReqs(whole, all) {
				t.Fatalf("the fields of the request %d are those of another one, too", i)
			}
		}
		told := again()
		clear(told[:cap(told)])
		if !sameReqs(other, all) || !sameReqs(whole, all) {
			t.Fatal("two answers share a list of requests")
		}
	}
	first, second := impl.Pieces(askA, []int{2, 3}), impl.Pieces(askA, []int{2, 3})
	clear(first[:cap(first)])
	if strings.Join(second, "") != askA {
		t.Error("two answers share a list of pieces")
	}
}

// checkPromise5 also asks that nothing is lost by the cut itself.
func checkPromise5(t *testing.T, s impl.Stream, text string, sizes []int) {
	t.Helper()
	pieces := impl.Pieces(text, sizes)
	if strings.Join(pieces, "") != text {
		t.Fatalf("Pieces(%q, %d) = %q", text, sizes, pieces)
	}
	if len(pieces) == 0 {
		return
	}
	want, wantTold := impl.Feed(s, text)
	got, told := impl.FeedAll(s, pieces)
	if got != want || !sameReqs(told, wantTold) {
		t.Fatalf("FeedAll(%#v, %q) = %#v, %#v, not %#v, %#v as of the whole", s, pieces, got, told, want, wantTold)
	}
}

// promiseTexts are right, wrong, and cut short.
func promiseTexts() []string {
	all := []string{
		"", askA, askB, askC, askA + askB + askC, askB + askC + askA[:len(askA)-1], askC + askB[:len(askB)-1], askA + "\r\n" + askB, askA + "POST /b HTTP/1.1\r\n\r\n" + askB,
		askB + "POST /b HTTP/1.1\r\ncontent-length: 121\r\n\r\nhi" + askA, askB + "POST /b HTTP/1.1\r\ncontent-length: 1\r\n\r\nhi" + askA, "POST /b HTTP/1.1\r\ncontent-length: 3\r\n\r\nhi" + askA + askB,
		"content-length: 3\r\n\r\nhi" + askA, "x\r\ncontent-length: 3\r\n\r\nhi" + askA, "POST /b HTTP/1.1\r\ncontent-length: x\r\ncontent-length: 3\r\n\r\nhi", "\r\n\r\n\r\n\r\n" + askA,
		bytesFrom(0, 256) + "\r\n\r\n" + askA, askA + bytesFrom(0, 256),
	}
	for i, wrong := range wrongTexts()[:26] {
		if len(wrong) < 300 {
			all = append(all, []string{askA, askB, askC}[i%3]+wrong+askB)
		}
	}
	return all
}

func TestPromise5EveryCutInTwoAndThree(t *testing.T) {
	for _, text := range promiseTexts() {
		for first := range len(text) + 1 {
			for _, s := range []impl.Stream{{}, waits("G"), waits(askA + askC[:len(askC)-1]), bad} {
				checkPromise5(t, s, text, []int{first})
			}
			for second := first % 3; first+second <= len(text); second += 3 {
				checkPromise5(t, impl.Stream{}, text, []int{first, second})
			}
		}
	}
}

func TestPromise5AllSizes(t *testing.T) {
	for _, text := range promiseTexts() {
		for n := 1; n <= 40; n++ {
			for _, s := range startStreams() {
				checkPromise5(t, s, text, slices.Repeat([]int{n}, len(text)/n))
			}
			checkPromise5(t, impl.Stream{}, text, slices.Repeat([]int{n, 0, 1, -n}, 200))
		}
		for i, sizes := range oddSizes() {
			checkPromise5(t, startStreams()[i%len(startStreams())], text, sizes)
		}
	}
}

func TestPromise5RequestsInWhateverPieces(t *testing.T) {
	all := someReqs()
	text := textOfReqs(all)
	for n := 1; n <= 1500; n++ {
		pieces := impl.Pieces(text, slices.Repeat([]int{n}, len(text)/n))
		if s, told := impl.FeedAll(impl.Stream{}, pieces); s != (impl.Stream{}) || !sameReqs(told, all) {
			t.Fatalf("FeedAll by %d bytes = %#v, %d requests", n, s, len(told))
		}
	}
}

func TestPromise5AroundMaxHead(t *testing.T) {
	var texts []string
	for n := 1197; n <= 1203; n++ {
		for _, behind := range []string{"", "\r\n\r\n", "\r\n\r\n" + askA, "\r\ncontent-length: 9\r\n\r\nxxxx", "\r\ncontent-length: 9\r\n\r\nxxxxxxxxx" + askA} {
			texts = append(texts, openHead(n)+behind, askA+askB+openHead(n)+behind, openHead(n-31)+behind, openHead(n-35)+behind)
		}
	}
	for _, text := range texts {
		for _, n := range []int{1, 2, 7, 60, 599, 600, 601, 1199, 1200, 1201} {
			checkPromise5(t, impl.Stream{}, text, slices.Repeat([]int{n}, len(text)/n))
			checkPromise5(t, impl.Stream{}, text, []int{n, 1, 1, 1})
			checkPromise5(t, waits(askC[:5]), askC[5:]+text, []int{n})
		}
	}
}

func TestPromise5AllOrdersOfLines(t *testing.T) {
	for _, text := range textsOf(lineParts(), 4) {
		checkPromise5(t, impl.Stream{}, text, slices.Repeat([]int{1}, len(text)))
		checkPromise5(t, waits("GET /a HTTP/1.1\r\n"), text, slices.Repeat([]int{1}, len(text)))
		checkPromise5(t, waits(askB[:len(askB)-2]), text, []int{1, 3, 2})
	}
}
