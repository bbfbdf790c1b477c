package tests

import (
	"fmt"
	"math"
	"regexp"
	"runtime"
	"slices"
	"strconv"
	"strings"
	"sync"
	"testing"

	"loop.example/g00239/impl"
)

// The forms of a line that does something, told by expressions and not by
// words.
var (
	getForm   = lineForm(`get N W( W)?`)
	purgeForm = lineForm(`purge N W`)
	okForm    = lineForm(`ok N N W( W)?`)
	sameForm  = lineForm(`same N`)
	failForm  = lineForm(`fail N`)
	tickForm  = lineForm(`tick N`)
)

func lineForm(form string) *regexp.Regexp {
	form = strings.ReplaceAll(form, "N", `(0|[1-9][0-9]{0,5}|1000000)`)
	return regexp.MustCompile(`(?s)\A` + strings.ReplaceAll(form, "W", `([^ ]*)`) + `\z`)
}

func deedByHand(line string) (impl.Deed, bool) {
	number := func(digits string) int {
		n, _ := strconv.Atoi(digits)
		return n
	}
	if m := getForm.FindStringSubmatch(line); m != nil {
		q := impl.Req{Method: 1, Path: m[2]}
		if m[3] != "" {
			q.Fields = fieldsOf("lang", m[4])
		}
		return askDeed(number(m[1]), q), true
	}
	if m := purgeForm.FindStringSubmatch(line); m != nil {
		return askDeed(number(m[1]), impl.Req{Method: 4, Path: m[2]}), true
	}
	if m := okForm.FindStringSubmatch(line); m != nil {
		r := impl.Resp{Status: 200, Fields: fieldsOf("cache-control", "max-age="+m[2]), Body: m[3]}
		if m[4] != "" {
			r.Fields = append(r.Fields, fieldsOf("etag", m[5])...)
		}
		return replyDeed(number(m[1]), r), true
	}
	if m := sameForm.FindStringSubmatch(line); m != nil {
		return replyDeed(number(m[1]), impl.Resp{Status: 304}), true
	}
	if m := failForm.FindStringSubmatch(line); m != nil {
		return failDeed(number(m[1])), true
	}
	if m := tickForm.FindStringSubmatch(line); m != nil {
		return tickDeed(number(m[1])), true
	}
	if line == "crash" {
		return crashDeed(), true
	}
	return syncDeed(), line == "sync"
}

func cacheLineByHand(c impl.Cache, line string) (impl.Cache, string) {
	if !cacheOkByHand(c) {
		return c, "bad"
	}
	last := len(c.Sent) - 1
	switch {
	case line == "" || line[0] == ';':
		return c, ""
	case line == "shelf":
		return c, shelfTextByHand(c.Shelf)
	case line == "judge":
		return c, map[bool]string{true: "yes", false: "no"}[verdictByHand(c).all]
	case line == "sent" && last < 0:
		return c, "none"
	case line == "sent":
		return c, replyTextByHand(c.Sent[last])
	}
	d, isDeed := deedByHand(line)
	if !isDeed {
		return c, "what"
	}
	after, code := cacheDoByHand(c, d)
	switch {
	case code != 0:
		return c, []string{"", "bad", "none", "full"}[code]
	case d.Kind != 1:
		return after, "ok"
	case len(after.Sent) == len(c.Sent):
		return after, "wait"
	}
	return after, replyTextByHand(after.Sent[last+1])
}

func sessionByHand(lines string) (string, int) {
	all := strings.SplitAfter(lines, "\n")
	if all[len(all)-1] == "" {
		all = all[:len(all)-1]
	}
	if len(all) > 80 {
		return "", -2
	}
	told, c, text := "", impl.Cache{Shelf: newShelfByHand()}, ""
	for _, line := range all {
		if c, text = cacheLineByHand(c, strings.TrimSuffix(line, "\n")); text != "" {
			told += text + "\n"
		}
	}
	return told, len(all)
}

// checkLine is for a line of which the answer is known by the model alone.
func checkLine(t *testing.T, c impl.Cache, line string) (impl.Cache, string) {
	t.Helper()
	want, wantText := cacheLineByHand(c, line)
	got, text := impl.CacheLine(c, line)
	if text != wantText || !sameCache(got, want) {
		t.Fatalf("CacheLine(%s, %q) = %s, %q, not %s, %q", inShort(c), line, inShort(got), text, inShort(want), wantText)
	}
	return got, text
}

func checkLineTells(t *testing.T, c impl.Cache, line, want string) impl.Cache {
	t.Helper()
	got, text := checkLine(t, c, line)
	if text != want {
		t.Fatalf("CacheLine(%s, %q) tells %q, not %q", inShort(c), line, text, want)
	}
	return got
}

// checkLineDoes holds a line to the deed that it is, without the model.
func checkLineDoes(t *testing.T, c impl.Cache, line string, d impl.Deed, want string) impl.Cache {
	t.Helper()
	after, code := impl.CacheDo(c, d)
	if got := checkLineTells(t, c, line, want); code != impl.CdDone || !sameCache(got, after) {
		t.Fatalf("CacheLine(%s, %q) = %s, not %s, %d", inShort(c), line, inShort(got), inShort(after), code)
	}
	return after
}

// checkLineTurnsNothing is for a line behind which a cache is as it was.
func checkLineTurnsNothing(t *testing.T, c impl.Cache, line, want string) {
	t.Helper()
	if got := checkLineTells(t, c, line, want); !sameCache(got, c) {
		t.Fatalf("CacheLine(%s, %q) = %s", inShort(c), line, inShort(got))
	}
}

// checkNoLine tries a line on caches in which each deed could be done.
func checkNoLine(t *testing.T, lines ...string) {
	t.Helper()
	for _, line := range lines {
		checkLineTurnsNothing(t, busy(), line, "what")
		checkLineTurnsNothing(t, impl.CacheNew(), line, "what")
	}
}

func checkSession(t *testing.T, lines, want string, count int) {
	t.Helper()
	byHand, n := sessionByHand(lines)
	if told, got := impl.Session(lines); told != want || got != count || byHand != want || n != count {
		t.Fatalf("Session(%q) = %q, %d, not %q, %d (by hand %q, %d)", lines, told, got, want, count, byHand, n)
	}
}

func linesOf(list ...string) string { return strings.Join(list, "\n") }

// deskLines are lines of each word in each form, whatever comes of them.
func deskLines() []string {
	return []string{
		"", ";", "; x", ";get 1 /a", "shelf", "judge", "sent", "sync", "crash",
		"get 5 /a", "get 5 /a de", "get 5 /a en", "get 5 /b de", "get 5 /b", "get 5 /c", "get 5 /3 de", "get 5 /f0 de", "get 5 a", "get 5 ", "get 5 /a ", "get 0 /new", "get 1000000 /a de",
		"purge 5 /a", "purge 5 /none", "purge 5 a", "purge 5 ",
		"ok 0 5 x", "ok 1 5 x v1", "ok 2 0 x", "ok 3 5 x", "ok 4 5 x v9", "ok 5 5 x", "ok 0 5 ", "ok 0 5 x ", "ok 1000000 1000000 x",
		"same 0", "same 1", "same 2", "same 4", "same 5", "fail 0", "fail 1", "fail 4", "fail 5",
		"tick 0", "tick 1", "tick 5", "tick 999988", "tick 999989", "tick 1000000",
		"help", "get", "get 5", "get x /a", "get 5 /a de x", "GET 5 /a", "purge 5 /a de", "ok 0 5", "tick 01", "tick -1", "shelf 1", " sent", "judge ",
	}
}

// linesThatDo are lines that can be done in a busy cache, each with its deed
// and what it tells.
func linesThatDo() map[string]struct {
	deed impl.Deed
	told string
} {
	return map[string]struct {
		deed impl.Deed
		told string
	}{
		"get 5 /a":        {askDeed(5, asks()), "wait"},
		"get 5 /a de":     {askDeed(5, asksIn("/a", "de")), "5 here 200 2"},
		"get 5 /b de":     {askDeed(5, asksIn("/b", "de")), "wait"},
		"purge 5 /a":      {askDeed(5, purges("/a")), "5 not 200"},
		"ok 0 5 hello":    {replyDeed(0, impl.Resp{Status: 200, Fields: fieldsOf("cache-control", "max-age=5"), Body: "hello"}), "ok"},
		"ok 0 5 hello v1": {replyDeed(0, impl.Resp{Status: 200, Fields: fieldsOf("cache-control", "max-age=5", "etag", "v1"), Body: "hello"}), "ok"},
		"same 1":          {replyDeed(1, impl.Resp{Status: 304}), "ok"},
		"fail 2":          {failDeed(2), "ok"},
		"tick 3":          {tickDeed(3), "ok"},
		"sync":            {syncDeed(), "ok"},
		"crash":           {crashDeed(), "ok"},
	}
}

func TestDeskLimit(t *testing.T) {
	if impl.MaxLines != 80 {
		t.Error("another limit is told", impl.MaxLines)
	}
}

func TestCacheLineDoesWhatItSays(t *testing.T) {
	for line, one := range linesThatDo() {
		checkLineDoes(t, busy(), line, one.deed, one.told)
	}
}

func TestCacheLineOfNoCache(t *testing.T) {
	lines := append(deskLines(), "\x00", "x\ny")
	for i, c := range append(wrongCaches(), impl.Cache{}) {
		checkLineTurnsNothing(t, c, "judge", "bad")
		for _, line := range lines[i%3*20 : min(i%3*20+30, len(lines))] {
			checkLineTurnsNothing(t, c, line, "bad")
		}
	}
	for _, one := range wrongsOf() {
		c := judged()
		one.make(&c)
		for _, line := range lines {
			checkLineTurnsNothing(t, c, line, "bad")
		}
	}
}

func TestCacheLineOfRemarks(t *testing.T) {
	for _, c := range []impl.Cache{impl.CacheNew(), busy(), judged(), withLists(busy(), 1500, 1500)} {
		checkLineTurnsNothing(t, c, "", "")
		checkLineTurnsNothing(t, c, ";", "")
		for _, line := range deskLines() {
			checkLineTurnsNothing(t, c, ";"+line, "")
			checkLineTurnsNothing(t, c, "; "+line, "")
			checkLineTurnsNothing(t, c, ";\n"+line, "")
		}
	}
	for _, text := range fewOdd() {
		checkLineTurnsNothing(t, busy(), ";"+text, "")
	}
	checkLineTurnsNothing(t, busy(), ";"+strings.Repeat("x ", 50000), "")
	checkNoLine(t, " ", " ;", "\t;", "x;", "\n", "\n;", "\x00", "\r", "#", "//", "\xef\xbb\xbf;", "\u037e")
}

func TestCacheLineGetFromHere(t *testing.T) {
	for now, age := range map[int]string{10: "0", 11: "1", 12: "2", 14: "4"} {
		for _, client := range []int{0, 1, 9, 10, 47, 999999, 1000000} {
			c := busy()
			c.Now = now
			got := checkLineDoes(t, c, fmt.Sprintf("get %d /a de", client), askDeed(client, asksIn("/a", "de")), fmt.Sprintf("%d here 200 %s", client, age))
			if a := got.Sent[2]; len(got.Sent) != 3 || a.Client != client || a.Kind != impl.AnHere || !sameReq(a.Q, asksIn("/a", "de")) {
				t.Fatalf("there was answered %s", inShort(got.Sent))
			}
		}
	}
	// Without a lang it is another question.
	c := impl.CacheNew()
	c.Shelf, c.Now = keptAll(cameAs("/a", "de", 3, 9), cameAs("/b", "-", 3, 9)), 5
	checkLineTells(t, c, "get 1 /a de", "1 here 200 2")
	checkLineTells(t, c, "get 1 /a", "wait")
	checkLineTells(t, c, "get 1 /a -", "wait")
	checkLineTells(t, c, "get 1 /b", "1 here 200 2")
	checkLineTells(t, c, "get 1 /b -", "1 here 200 2")
	checkLineTells(t, c, "get 1 /b de", "wait")
}

func TestCacheLineGetWaits(t *testing.T) {
	for line, q := range map[string]impl.Req{"get 7 /a": asks(), "get 7 /a en": asksIn("/a", "en"), "get 7 /c": {Method: impl.MtGet, Path: "/c"}, "get 7 /new x": asksIn("/new", "x")} {
		c := busy()
		c.Now = 100
		got := checkLineDoes(t, c, line, askDeed(7, q), "wait")
		if f := got.Flights[3]; len(got.Flights) != 4 || !sameReq(f.Q, q) || !slices.Equal(f.Who, []int{7}) || len(got.Sent) != 2 {
			t.Fatalf("%q makes %s", line, inShort(got))
		}
	}
	// What is kept goes along, where it is fresh no more.
	c := checkLineTells(t, impl.Cache{Shelf: keptAll(speaks("/a", "de", 3)), Now: 8}, "get 7 /a de", "wait")
	if !sameFlight(c.Flights[0], fliesFor(asksIn("/a", "de"), speaks("/a", "de", 3), 7)) {
		t.Fatalf("there flies %s", inShort(c.Flights))
	}
	got := checkLineTells(t, busy(), "get 7 /b de", "wait")
	if !slices.Equal(got.Flights[1].Who, []int{3, 7}) || len(got.Flights) != 3 || len(got.Sent) != 2 {
		t.Fatalf("who joins makes %s", inShort(got))
	}
}

func TestCacheLineGetWithoutRoom(t *testing.T) {
	c := impl.CacheNew()
	for client := 1; client <= 5; client++ {
		c = checkLineTells(t, c, fmt.Sprintf("get %d /a", client), "wait")
	}
	c = checkLineTells(t, c, "get 6 /a", "6 not 503")
	for i := range 4 {
		c = checkLineTells(t, c, fmt.Sprintf("get 7 /a x%d", i), "wait")
	}
	c = checkLineTells(t, c, "get 8 /b", "8 not 503")
	c = checkLineTells(t, c, "get 9 /a x2", "wait")
	c = checkLineTells(t, c, "get 9 /a", "9 not 503")
	if len(c.Flights) != 5 || len(c.Sent) != 3 || len(impl.Waiting(c)) != 10 {
		t.Fatalf("there is %s", inShort(c))
	}
}

func TestCacheLineOfFullCaches(t *testing.T) {
	for sent, isFull := range map[int]bool{0: false, 1493: false, 1494: false, 1495: true, 1496: true, 1500: true} {
		c := withLists(busy(), 3, sent)
		for line, one := range linesThatDo() {
			if needsRoom := !slices.Contains([]string{"tick 3", "sync", "crash"}, line); needsRoom && isFull {
				checkLineTurnsNothing(t, c, line, "full")
			} else {
				checkLineDoes(t, c, line, one.deed, one.told)
			}
		}
	}
	for seen, isFull := range map[int]bool{1494: false, 1495: true, 1500: true} {
		c := withLists(busy(), seen, 3)
		for line, one := range linesThatDo() {
			if (line[:2] == "ok" || line == "same 1") && isFull {
				checkLineTurnsNothing(t, c, line, "full")
			} else {
				checkLineDoes(t, c, line, one.deed, one.told)
			}
		}
	}
	// What is amiss ahead of it is told first.
	c := withLists(busy(), 1500, 1500)
	for line, want := range map[string]string{"get 1 a": "bad", "get 1 ": "bad", "purge 1 a": "bad", "ok 0 5 x ": "bad", "ok 3 5 x": "none", "same 3": "none", "fail 3": "none", "tick 999989": "bad", "get x /a": "what", "ok 0": "what", "sent": "7 not 504", "": "", ";": ""} {
		checkLineTurnsNothing(t, c, line, want)
	}
}

func noPaths() []string {
	all := []string{"", "a", "a/", "x/a", "./", "http:/", "\\a", "*", "\t/a", "/\t", "/a\t", "/\x00", "/\x7f", "/\x1f", "/a\r", "/\xff", "/\u00e4", "/a\u00a0b", "/a\n", "\n/a", "/" + strings.Repeat("a", 60), "/" + strings.Repeat("a", 50000)}
	for _, one := range singleBytes() {
		if one != " " && one != "/" {
			all = append(all, one+"/a")
		}
		if one < "!" || one > "~" {
			all = append(all, "/a"+one, "/"+one+"a")
		}
	}
	return slices.DeleteFunc(all, func(path string) bool { return strings.Contains(path, " ") })
}

func TestCacheLineOfNoPaths(t *testing.T) {
	for _, path := range noPaths() {
		for _, line := range []string{"get 1 " + path, "get 1 " + path + " de", "purge 1 " + path} {
			checkLineTurnsNothing(t, busy(), line, "bad")
			checkLineTurnsNothing(t, impl.CacheNew(), line, "bad")
		}
	}
	full := busy()
	full.Flights, full.Shelf.Bans = manyFlights(5), manyBans(5)
	for _, line := range []string{"get 1 a", "get 1 ", "purge 1 a", "purge 1 "} {
		checkLineTurnsNothing(t, full, line, "bad")
	}
}

func TestCacheLineOfRightPaths(t *testing.T) {
	paths := append(rightPaths(), "/;", "/get", "/1", "/"+strings.Repeat("a", 59), "/"+bytesFrom(33, 59), "/"+bytesFrom(68, 59))
	for _, path := range paths {
		checkLineDoes(t, busy(), "get 7 "+path+" xx", askDeed(7, asksIn(path, "xx")), "wait")
		checkLineDoes(t, impl.CacheNew(), "get 7 "+path, askDeed(7, impl.Req{Method: impl.MtGet, Path: path}), "wait")
		c := checkLineDoes(t, busy(), "purge 7 "+path, askDeed(7, purges(path)), "7 not 200")
		if b := c.Shelf.Bans[0]; b != banPath(path, 12) {
			t.Fatalf("there is banned %+v", b)
		}
		c = checkLineTells(t, impl.CacheNew(), "get 7 "+path, "wait")
		c = checkLineTells(t, c, "ok 0 5 x", "ok")
		checkLineTells(t, c, "get 8 "+path, "8 here 200 0")
		checkLineTells(t, c, "shelf", path+"@0")
	}
}

func TestCacheLineOfValues(t *testing.T) {
	for _, value := range []string{"x", "-", "de", "de,en", "*", ";", "1", strings.Repeat("v", 60), bytesFrom(33, 60), bytesFrom(67, 60)} {
		c := checkLineDoes(t, busy(), "get 7 /n "+value, askDeed(7, asksIn("/n", value)), "wait")
		if f := c.Flights[3]; !slices.Equal(f.Q.Fields, fieldsOf("lang", value)) {
			t.Fatalf("there flies %s", inShort(f))
		}
	}
	for _, value := range []string{"", "\t", "x\t", "\tx", "x\ty", "x\r", "\x7f", "\x00", "\xff", "\u00e4", "x\ny", "\n", strings.Repeat("v", 61), strings.Repeat("v", 50000)} {
		checkLineTurnsNothing(t, busy(), "get 7 /a "+value, "bad")
		checkLineTurnsNothing(t, busy(), "ok 0 5 x "+value, "bad")
	}
}

func TestCacheLinePurge(t *testing.T) {
	c := checkLineDoes(t, busy(), "purge 1 /a", askDeed(1, purges("/a")), "1 not 200")
	checkSent(t, c, 2, impl.Reply{Client: 1, Q: purges("/a"), Resp: impl.Resp{Status: 200}, Kind: impl.AnNot, T: 12})
	checkLineTells(t, c, "get 2 /a de", "wait")
	for n := 2; n <= 5; n++ {
		c = checkLineTells(t, c, fmt.Sprintf("purge %d /%d", n, n), fmt.Sprintf("%d not 200", n))
		checkLineTells(t, c, "shelf", fmt.Sprintf("/b@3 /c@4 !%d", n))
	}
	was := c.Shelf
	c = checkLineDoes(t, c, "purge 6 /c", askDeed(6, purges("/c")), "6 not 503")
	if !sameShelf(c.Shelf, was) || len(c.Sent) != 8 {
		t.Fatalf("there is %s", inShort(c))
	}
	// It is asked for without a lang.
	checkNoLine(t, "purge 1 /a de", "purge 1 /a ", "purge 1 /a  ", "purge 1  /a", "purge 1", "purge 1 /a\x20\x20de", "purge  /a", "purge /a 1")
}

func TestCacheLineOk(t *testing.T) {
	for _, at := range []int{0, 1, 2} {
		for _, age := range []int{0, 1, 9, 10, 4711, 999999, 1000000} {
			for _, body := range []string{"x", "", "0", ";", strings.Repeat("b", 120), "a\tb", "\x00\xff", "a\nb", "\r\n\r\n", "content-length:9"} {
				for _, tag := range []string{"", "v1", "*", "\"x\"", strings.Repeat("v", 60)} {
					r := impl.Resp{Status: 200, Fields: fieldsOf("cache-control", fmt.Sprint("max-age=", age)), Body: body}
					line := fmt.Sprintf("ok %d %d %s", at, age, body)
					if tag != "" {
						r.Fields = append(r.Fields, fieldsOf("etag", tag)...)
						line += " " + tag
					}
					c := checkLineDoes(t, busy(), line, replyDeed(at, r), "ok")
					if one := c.Seen[2]; len(c.Seen) != 3 || !sameResp(one.Resp, r) || len(c.Flights) != 2 {
						t.Fatalf("%q makes %s", line, inShort(c))
					}
				}
			}
		}
	}
}

func TestCacheLineOkThatIsRefused(t *testing.T) {
	for _, at := range []string{"3", "4", "5", "9", "10", "999999", "1000000"} {
		for _, rest := range []string{" 5 x", " 5 x v1", " 5 ", " 0 x"} {
			checkLineTurnsNothing(t, busy(), "ok "+at+rest, "none")
		}
	}
	checkLineTurnsNothing(t, impl.CacheNew(), "ok 0 5 x", "none")
	for _, body := range []string{strings.Repeat("b", 121), strings.Repeat("b", 50000)} {
		checkLineTurnsNothing(t, busy(), "ok 0 5 "+body, "bad")
		checkLineTurnsNothing(t, busy(), "ok 0 5 "+body+" v1", "bad")
		checkLineTurnsNothing(t, busy(), "ok 9 5 "+body, "bad")
	}
	checkLineTurnsNothing(t, busy(), "ok 9 5 x ", "bad")
	checkLineTurnsNothing(t, busy(), "ok 0 5  ", "bad")
}

// A body has no blanks: what is behind one is the tag, and there is one tag.
func TestCacheLineOkCutsAtBlanks(t *testing.T) {
	c := checkLineTells(t, busy(), "ok 0 5 a b", "ok")
	if r := c.Seen[2].Resp; r.Body != "a" || !slices.Equal(r.Fields, fieldsOf("cache-control", "max-age=5", "etag", "b")) {
		t.Fatalf("there was seen %s", inShort(r))
	}
	c = checkLineTells(t, busy(), "ok 0 5  b", "ok")
	if r := c.Seen[2].Resp; r.Body != "" || !slices.Equal(r.Fields, fieldsOf("cache-control", "max-age=5", "etag", "b")) {
		t.Fatalf("there was seen %s", inShort(r))
	}
	checkNoLine(t, "ok 0 5 a b c", "ok 0 5 a b ", "ok 0 5 a  b", "ok 0 5   ", "ok 0 5 a b c d e f")
}

func TestCacheLineSame(t *testing.T) {
	c := checkLineDoes(t, busy(), "same 1", replyDeed(1, same304()), "ok")
	if a := c.Sent[2]; a.Kind != impl.AnSame || a.Resp.Status != 200 || a.Client != 3 || !sameResp(c.Seen[2].Resp, impl.Resp{Status: 304}) {
		t.Fatalf("there was answered %s", inShort(c.Sent))
	}
	c = checkLineDoes(t, busy(), "same 0", replyDeed(0, same304()), "ok")
	if a := c.Sent[3]; a.Kind != impl.AnThere || a.Resp.Status != 304 || a.Client != 2 {
		t.Fatalf("there was answered %s", inShort(c.Sent))
	}
	for _, at := range []string{"3", "4", "5", "1000000"} {
		checkLineTurnsNothing(t, busy(), "same "+at, "none")
	}
	checkLineTurnsNothing(t, impl.CacheNew(), "same 0", "none")
	checkNoLine(t, "same", "same ", "same 1 v1", "same 1 ", "same  1", "same x", "same1")
}

func TestCacheLineFail(t *testing.T) {
	for at, who := range [][]int{{1, 2}, {3}, {4}} {
		c := checkLineDoes(t, busy(), fmt.Sprint("fail ", at), failDeed(at), "ok")
		if len(c.Flights) != 2 || len(c.Sent) != 2+len(who) || c.Sent[2].Client != who[0] || c.Sent[2].Resp.Status != 504 {
			t.Fatalf("there is %s", inShort(c))
		}
	}
	for _, at := range []string{"3", "4", "5", "1000000"} {
		checkLineTurnsNothing(t, busy(), "fail "+at, "none")
	}
	checkLineTurnsNothing(t, impl.CacheNew(), "fail 0", "none")
	checkNoLine(t, "fail", "fail ", "fail 1 2", "fail 1 ", "fail  1", "fail x", "fail1")
}

func TestCacheLineTick(t *testing.T) {
	for _, n := range []int{0, 1, 2, 9, 10, 4711, 999987, 999988} {
		if c := checkLineDoes(t, busy(), fmt.Sprint("tick ", n), tickDeed(n), "ok"); c.Now != 12+n {
			t.Fatalf("behind %d it is %d", n, c.Now)
		}
	}
	for _, n := range []string{"999989", "999999", "1000000"} {
		checkLineTurnsNothing(t, busy(), "tick "+n, "bad")
	}
	late := checkLineTells(t, impl.CacheNew(), "tick 1000000", "ok")
	checkLineTurnsNothing(t, late, "tick 1", "bad")
	checkLineTurnsNothing(t, late, "tick 0", "ok")
	checkNoLine(t, "tick", "tick ", "tick 1 2", "tick 1 ", "tick  1", "tick x", "tick1", "tick 1000001", "tick 9223372036854775807", "tick 18446744073709551617")
}

func TestCacheLineSyncAndCrash(t *testing.T) {
	c := busy()
	if len(c.Shelf.Disk.Pending) != 3 {
		t.Fatalf("there is %s", inShort(c.Shelf.Disk))
	}
	synced := checkLineDoes(t, c, "sync", syncDeed(), "ok")
	if len(synced.Shelf.Disk.Pending) != 0 || len(synced.Flights) != 3 || !slices.EqualFunc(synced.Shelf.Objs, c.Shelf.Objs, sameKept) {
		t.Fatalf("there is %s", inShort(synced))
	}
	checkLineTurnsNothing(t, synced, "sync", "ok")
	crashed := checkLineDoes(t, synced, "crash", crashDeed(), "ok")
	if len(crashed.Flights) != 0 || len(crashed.Shelf.Objs) != 3 || len(crashed.Sent) != 2 || len(crashed.Seen) != 2 || crashed.Now != 12 {
		t.Fatalf("there is %s", inShort(crashed))
	}
	// Nothing is kept of what was pending.
	lost := checkLineDoes(t, c, "crash", crashDeed(), "ok")
	if len(lost.Flights) != 0 || len(lost.Shelf.Objs) != 0 || len(lost.Shelf.Disk.Pending) != 0 {
		t.Fatalf("there is %s", inShort(lost))
	}
	checkLineTells(t, lost, "shelf", "-")
	checkLineTurnsNothing(t, impl.CacheNew(), "crash", "ok")
	checkNoLine(t, "sync ", "sync 1", " sync", "sync\t", "syncs", "crash ", "crash 1", "crash true", " crash", "crashed")
}

func TestCacheLineShelf(t *testing.T) {
	checkLineTurnsNothing(t, impl.CacheNew(), "shelf", "-")
	checkLineTurnsNothing(t, busy(), "shelf", "/a@10 /b@3 /c@4")
	checkLineTurnsNothing(t, judged(), "shelf", "/b@11 /a@16 /d@16 !2")
	for n := range 6 {
		c := busy()
		c.Shelf.Bans = manyBans(n)
		want := "/a@10 /b@3 /c@4"
		if n > 0 {
			want += fmt.Sprint(" !", n)
		}
		checkLineTurnsNothing(t, c, "shelf", want)
		c.Shelf.Objs = nil
		checkLineTurnsNothing(t, c, "shelf", "-"+strings.TrimPrefix(want, "/a@10 /b@3 /c@4"))
	}
	for _, s := range rightShelves() {
		c := busy()
		c.Shelf = s
		checkLineTurnsNothing(t, c, "shelf", impl.ShelfText(s))
	}
	checkNoLine(t, "shelf ", "shelf 1", " shelf", "shelf\t", "shelfs", "Shelf", "shel")
}

func TestCacheLineJudge(t *testing.T) {
	checkLineTurnsNothing(t, impl.CacheNew(), "judge", "yes")
	checkLineTurnsNothing(t, judged(), "judge", "yes")
	told := map[string]int{}
	for _, here := range wrongFromHere() {
		c := judged()
		here(&c.Sent[5])
		want := map[bool]string{true: "yes", false: "no"}[impl.JudgeAll(c)]
		checkLineTurnsNothing(t, c, "judge", want)
		told["here "+want]++
	}
	for _, one := range diskTurns() {
		c := judged()
		one.make(&c)
		if impl.CacheOk(c) {
			want := map[bool]string{true: "yes", false: "no"}[impl.JudgeAll(c)]
			checkLineTurnsNothing(t, c, "judge", want)
			told["disk "+want]++
		}
	}
	if told["here no"] == 0 || told["disk no"] == 0 {
		t.Errorf("too little was judged: %v", told)
	}
	// Bans, and one who was answered twice, which is asked for by nobody here.
	c := judged()
	c.Shelf.Bans[0] = banBelow("/a", 16)
	checkLineTurnsNothing(t, c, "judge", "no")
	c = judged()
	c.Flights[0].Who = []int{1}
	checkLineTurnsNothing(t, c, "judge", "yes")
	checkNoLine(t, "judge ", "judge 1", " judge", "judge\t", "judges", "Judge", "judg")
}

func TestCacheLineSent(t *testing.T) {
	checkLineTurnsNothing(t, impl.CacheNew(), "sent", "none")
	checkLineTurnsNothing(t, withSent(replied(impl.AnThere)), "sent", "7 there 200")
	checkLineTurnsNothing(t, withSent(replied(impl.AnThere), replied(impl.AnHere, "age", "3")), "sent", "7 here 200 3")
	checkLineTurnsNothing(t, withSent(replied(impl.AnHere, "age", "3"), replied(impl.AnNot), replied(impl.AnSame)), "sent", "7 same 200")
	checkLineTurnsNothing(t, busy(), "sent", "8 here 200 1")
	// Of what is of no kind nothing is told, and of none that there is none.
	checkLineTurnsNothing(t, withSent(replied(impl.AnThere), replied(0)), "sent", "")
	checkLineTurnsNothing(t, withSent(impl.Reply{Client: -1, Kind: impl.AnNot}), "sent", " not 0")
	c := withLists(busy(), 0, 1500)
	c.Sent[1499] = replied(impl.AnSame, "age", "9")
	checkLineTurnsNothing(t, c, "sent", "7 same 200 9")
	c, _ = impl.CacheRun(impl.CacheNew(), judgedDeeds())
	checkLineTurnsNothing(t, c, "sent", "10 here 200 0")
	checkLineTurnsNothing(t, impl.Drain(c), "sent", "13 not 504")
	checkNoLine(t, "sent ", "sent 1", " sent", "sent\t", "sents", "Sent", "sen")
}

// numberLines are lines with a hole in place of one number.
func numberLines() []string {
	return []string{"get % /a", "get % /a de", "purge % /a", "ok % 5 x", "ok % 5 x v1", "ok 0 % x", "ok 0 % x v1", "same %", "fail %", "tick %"}
}

func TestCacheLineOfNumbers(t *testing.T) {
	for _, hole := range numberLines() {
		for _, n := range []int{0, 1, 2, 5, 9, 10, 19, 99, 100, 4711, 99999, 100000, 999988, 999999, 1000000} {
			line := strings.ReplaceAll(hole, "%", strconv.Itoa(n))
			if _, text := checkLine(t, busy(), line); text == "what" || text == "" {
				t.Fatalf("%q tells %q", line, text)
			}
			for _, form := range []string{"0%d", "00%d", "+%d", "-%d", "%d.", "%d.0", "%de0", "0x%d", "%d\x00", "\x00%d", "\t%d", "%d\t", "%d\r", "%d,", "_%d", "'%d'", "\xff%d", "%d\xff"} {
				checkNoLine(t, strings.ReplaceAll(hole, "%", fmt.Sprintf(form, n)))
			}
		}
		for _, digits := range append(noNumbers(), "\uff11", "one", strings.Repeat("1", 30), strings.Repeat("0", 50000), "4294967296", "1000002", "-9223372036854775808") {
			if !strings.Contains(digits, " ") {
				checkNoLine(t, strings.ReplaceAll(hole, "%", digits))
			}
		}
	}
}

// Of blanks there is one ahead of each word, and none behind all; another
// white byte is none.
func TestCacheLineOfBlanks(t *testing.T) {
	for line := range linesThatDo() {
		words := strings.Split(line, " ")
		for _, white := range []string{"\t", "\n", "\v", "\f", "\r", "\x00", "\u00a0", "\u2003", "\u3000", "\x85", "\xa0", "_", ","} {
			for at := 1; at < len(words); at++ {
				turned := strings.Join(words[:at], " ") + white + strings.Join(words[at:], " ")
				_, text := checkLine(t, busy(), turned)
				if at == 1 && text != "what" {
					t.Fatalf("%q tells %q", turned, text)
				}
			}
			checkNoLine(t, white+line)
		}
		checkNoLine(t, " "+line, "  "+line, words[0]+"  "+strings.Join(words[1:], " "))
		if len(words) > 1 {
			checkNoLine(t, strings.Join(words, ""))
		}
	}
	checkNoLine(t, "get1 /a", "get  1 /a", "get 1/a", "get 1", "get  /a", "get /a 1", "purge1 /a", "ok 0  5 x", "ok  0 5 x", "ok 05 x", "ok 0 5x", "ok0 5 x", "same  0", "tick  5", "tick 5 ", "tick  ", "fail 0  ", "sync  ", "  sync")
	// A word of no bytes is one as well: a path that is none, a value that is
	// none, a body that is one.
	for line, want := range map[string]string{"get 1 ": "bad", "get 1  ": "bad", "get 1  /a": "bad", "get 1 /a ": "bad", "get 1   ": "what", "get 1 /a  ": "what", "get 1 /a  de": "what", "get 1 /a de ": "what", "get 1  /a de": "what", "purge 1 ": "bad", "purge 1  ": "what", "ok 0 5 x ": "bad", "ok 0 5 x  ": "what"} {
		checkLineTurnsNothing(t, busy(), line, want)
	}
	checkLineDoes(t, busy(), "ok 0 5 ", replyDeed(0, impl.Resp{Status: 200, Fields: fieldsOf("cache-control", "max-age=5")}), "ok")
}

func TestCacheLineOfWords(t *testing.T) {
	lines := []string{"shelf", "judge", "sent"}
	for line := range linesThatDo() {
		lines = append(lines, line)
	}
	for _, line := range lines {
		word, rest, has := strings.Cut(line, " ")
		if has {
			rest = " " + rest
		}
		checkNoLine(t, strings.ToUpper(word)+rest, strings.ToUpper(word[:1])+word[1:]+rest, word[:len(word)-1]+strings.ToUpper(word[len(word)-1:])+rest)
		checkNoLine(t, word+"s"+rest, word+"x"+rest, "x"+word+rest, word+word+rest, word[1:]+rest, word[:len(word)-1]+rest, word+";"+rest, word+"\x00"+rest, "/"+word+rest, rest+" "+word)
		if !has {
			checkNoLine(t, word+" 0", word+" x", word+" /a", word+" "+word)
			continue
		}
		checkNoLine(t, word, word+" ", rest[1:])
		// As many words more as no form has.
		checkNoLine(t, line+" x y z", line+strings.Repeat(" 1", 9), line+strings.Repeat(" ", 9), line+strings.Repeat(" 0", 50000))
	}
	checkNoLine(t, "get 1", "get 1 /a b c", "purge 1", "purge 1 /a b", "ok", "ok 0", "ok 0 5", "ok 0 5 x v w", "same", "same 0 1", "fail", "fail 0 1", "tick", "tick 5 5")
	checkNoLine(t, "help", "quit", "x", "0", "1 get /a", "get x /a", "head 1 /a", "post 1 /a", "put 1 /a", "ban /a", "GET /a HTTP/1.1", "not", "here", "wait", "what", "yes", "no", "bad", "none", "full", "\x67\x65\x74\x00 1 /a")
}

// What there is of a right line, and a right line with one byte turned, told
// by the model.
func TestCacheLineOfPartsOfLines(t *testing.T) {
	for _, line := range deskLines() {
		for at := range len(line) {
			checkLine(t, busy(), line[:at])
			checkLine(t, busy(), line[at:])
			checkLine(t, busy(), line[:at]+line[at+1:])
			for _, other := range []string{" ", "0", "1", "x", "/", "A", ";", "\n", "\xff"} {
				checkLine(t, busy(), line[:at]+other+line[at+1:])
				checkLine(t, busy(), line[:at]+other+line[at:])
			}
		}
	}
}

func TestCacheLineOfAnyBytes(t *testing.T) {
	for _, text := range fewOdd() {
		for _, line := range []string{text, "get 1 " + text, "get 1 /" + text, "get 1 /a " + text, "get 1 /a x" + text + "y", "purge 1 /" + text, "ok 0 5 " + text, "ok 1 5 " + text + " v1", "ok 0 5 x " + text, "ok 0 5 x v" + text, "ok 0 5 " + text + text + text, "get " + text, "tick " + text, "tick 1" + text, text + "tick 1", "same " + text, "sync" + text, text + "crash", "shelf" + text, text + "judge", "sent" + text} {
			checkLine(t, busy(), line)
		}
		// What a body is made of is told again as it was.
		if !strings.Contains(text, " ") {
			c := checkLineTells(t, checkLineTells(t, impl.CacheNew(), "get 1 /a", "wait"), "ok 0 5 "+text, "ok")
			if body := c.Sent[0].Resp.Body; body != text {
				t.Fatalf("the body is %q, not %q", body, text)
			}
		}
	}
}

func TestCacheLineOfManyCaches(t *testing.T) {
	told := map[string]int{}
	caches := append(rightCaches(), movedCaches()...)
	caches = append(caches, judged(), bannedSince(), withLists(busy(), 1494, 1494), withLists(busy(), 1495, 3), withLists(busy(), 3, 1495))
	for _, c := range caches {
		for _, line := range deskLines() {
			_, text := checkLine(t, c, line)
			told[text]++
		}
	}
	for _, text := range []string{"ok", "bad", "none", "full", "wait", "what", "yes", "no", "", "-", "5 not 200", "5 not 503", "5 here 200 2"} {
		if told[text] == 0 {
			t.Errorf("nowhere %q is told: %v", text, told)
		}
	}
}

func TestSessionOfFewLines(t *testing.T) {
	checkSession(t, "", "", 0)
	checkSession(t, "\n", "", 1)
	checkSession(t, "\n\n", "", 2)
	checkSession(t, "\n\n\n", "", 3)
	checkSession(t, ";", "", 1)
	checkSession(t, ";\n", "", 1)
	checkSession(t, "sync", "ok\n", 1)
	checkSession(t, "sync\n", "ok\n", 1)
	checkSession(t, "sync\n\n", "ok\n", 2)
	checkSession(t, "\nsync", "ok\n", 2)
	checkSession(t, "\n\nsync\n\n\njudge\n", "ok\nyes\n", 6)
	checkSession(t, " ", "what\n", 1)
	checkSession(t, "\n ", "what\n", 2)
	checkSession(t, "; a\n\n; b\nx\n;", "what\n", 5)
	checkSession(t, "sent\nshelf\njudge", "none\n-\nyes\n", 3)
	checkSession(t, "sync\r\nsync\r\n", "what\nwhat\n", 2)
	checkSession(t, "\r\n\r\n", "what\nwhat\n", 2)
	checkSession(t, "\rsync\n\vsync\n\x00", "what\nwhat\nwhat\n", 3)
	checkSession(t, "sync;sync\nsync ; x\n\u2028sync\n\x85", "what\nwhat\nwhat\nwhat\n", 4)
}

func TestSessionGoesOn(t *testing.T) {
	checkSession(t, linesOf("get 1 /a", "get 2 /a", "ok 0 5 hello v1", "sent", "get 3 /a", "shelf", "tick 6", "get 4 /a", "same 0", "sent", "get 5 /a de", "purge 6 /a", "shelf", "get 7 /a", "fail 0", "judge", "crash", "shelf"),
		linesOf("wait", "wait", "ok", "2 there 200", "3 here 200 0", "/a@0", "ok", "wait", "ok", "4 same 200 0", "5 here 200 0", "6 not 200", "- !1", "wait", "ok", "yes", "ok", "- !1", ""), 18)
	checkSession(t, linesOf("get 1 /a", "ok 0 9 x", "tick 3", "get 2 /a", "get 3 /b", "ok 0 2 y", "shelf", "crash", "shelf", "get 4 /a", "ok 0 9 x", "sync", "crash", "get 5 /a", "tick 9", "get 6 /a", "fail 0", "sent"),
		linesOf("wait", "ok", "ok", "2 here 200 3", "wait", "ok", "/a@0 /b@3", "ok", "-", "wait", "ok", "ok", "ok", "5 here 200 0", "ok", "wait", "ok", "6 not 504", ""), 18)
	checkSession(t, linesOf("get 1 /a de", "get 2 /a en", "get 3 /a", "ok 1 5 x", "get 4 /a en", "get 5 /a de", "fail 0", "sent", "fail 0", "fail 0"),
		linesOf("wait", "wait", "wait", "ok", "4 here 200 0", "5 here 200 0", "ok", "1 not 504", "ok", "none", ""), 10)
	// Each begins anew, whatever was said ahead.
	for range 3 {
		checkSession(t, linesOf("shelf", "get 1 /a", "ok 0 5 x", "shelf"), "-\nwait\nok\n/a@0\n", 4)
		checkSession(t, linesOf("shelf", "sent", "ok 0 5 x"), "-\nnone\nnone\n", 3)
	}
}

func TestSessionOfManyLines(t *testing.T) {
	for _, line := range []string{"", ";", "sync", "x", "get 1 /a", "ok 0 5 " + strings.Repeat("b", 2000), "\xff"} {
		text := ""
		if told, n := impl.Session(line + "\n"); n == 1 {
			text = told
		}
		for n := 76; n <= 84; n++ {
			lines := strings.Repeat(line+"\n", n)
			told, got := impl.Session(lines)
			if byHand, want := sessionByHand(lines); told != byHand || got != want || got != map[bool]int{true: n, false: -2}[n <= 80] || n > 80 && told != "" {
				t.Fatalf("of %d times %q there is told %q, %d", n, line, told, got)
			}
			if line != "get 1 /a" && n <= 80 && told != strings.Repeat(text, n) {
				t.Fatalf("of %d times %q there is told %q", n, line, told)
			}
			// Without the last byte 10 there is one line less only where nothing
			// stands there then.
			if without, count := impl.Session(strings.TrimSuffix(lines, "\n")); line != "" && (without != told || count != got) || line == "" && count != map[bool]int{true: n - 1, false: -2}[n <= 81] {
				t.Fatalf("of %d times %q without the last byte there is told %q, %d", n, line, without, count)
			}
		}
	}
	full := strings.Repeat("sync\n", 80)
	told := strings.Repeat("ok\n", 80)
	checkSession(t, full, told, 80)
	checkSession(t, full[:len(full)-1], told, 80)
	for _, more := range []string{"\n", " ", "x", ";", "sync", "sync\n", "\x00", "\r", "\n\n", "\xff"} {
		checkSession(t, full+more, "", -2)
	}
	checkSession(t, full[5:]+"; last", told[3:], 80)
	for _, lines := range []string{strings.Repeat("\n", 81), strings.Repeat("\n", 100000), strings.Repeat("sync\n", 20000), strings.Repeat("x\n", 80) + strings.Repeat("y", 100000)} {
		checkSession(t, lines, "", -2)
	}
	checkSession(t, strings.Repeat("y", 100000), "what\n", 1)
	checkSession(t, strings.Repeat("\r", 100000), "what\n", 1)
}

func TestSessionOfAnyBytes(t *testing.T) {
	for _, text := range fewOdd() {
		for _, lines := range []string{text, text + "\n" + text, "get 1 /a\nok 0 5 " + text + "\nget 2 /a\nshelf\n", "get 1 /" + text + "\nok 0 5 x " + text + "\nshelf", "sync" + text + "judge", "sync" + text + "\njudge" + text} {
			byHand, n := sessionByHand(lines)
			checkSession(t, lines, byHand, n)
		}
	}
}

// deskRow tells lines by a row of numbers, of all words, as they may follow
// each other; few of them ask, or are none.
func deskRow(number uint32, n int) []string {
	next := func(below int) int {
		number = number*1664525 + 1013904223
		return int(number>>8) % below
	}
	pick := func(list ...string) string { return list[next(len(list))] }
	var list []string
	for client := 0; len(list) < n; client++ {
		path := fmt.Sprint("/", next(4))
		switch kind := next(50); {
		case kind < 18:
			list = append(list, fmt.Sprint("get ", client, " ", path, pick("", "", " de", " en")))
		case kind < 30:
			list = append(list, fmt.Sprint("ok ", next(3), " ", next(9), " b", client%5, pick("", " v1", " v2")))
		case kind < 33:
			list = append(list, fmt.Sprint("same ", next(3)), "sent")
		case kind < 35:
			list = append(list, fmt.Sprint("fail ", next(4)))
		case kind < 39:
			list = append(list, fmt.Sprint("tick ", next(5)))
		case kind < 40:
			list = append(list, fmt.Sprint("purge ", client, " ", path))
		case kind < 42:
			list = append(list, pick("sync", "sync", "crash"))
		case kind < 45:
			list = append(list, pick("shelf", "judge", "sent"))
		case kind < 47:
			list = append(list, pick("", ";", "; x"))
		case kind < 49:
			list = append(list, pick("get 1 a", "get 1 ", "purge 1 x", "ok 0 5 x ", "tick 1000000"))
		default:
			list = append(list, pick("help", "get", "tick 01", "ok 0 5", " sync"))
		}
	}
	return list[:n]
}

// turnsNothing is true of a line that asks, or is none, whatever it tells.
func turnsNothing(line string) bool {
	_, isDeed := deedByHand(line)
	return !isDeed
}

func TestSessionTellsLineByLine(t *testing.T) {
	told := map[string]int{}
	for number := range uint32(60) {
		list := deskRow(number, 20+int(number))
		c, want, text := impl.CacheNew(), "", ""
		for _, line := range list {
			c, text = checkLine(t, c, line)
			if text != "" {
				want += text + "\n"
			}
			word, _, _ := strings.Cut(text, " ")
			if len(text) > 2 && strings.Contains("0123456789", text[:1]) {
				word = strings.Split(text, " ")[1]
			}
			told[word]++
		}
		lines := linesOf(list...)
		if list[len(list)-1] == "" {
			lines += "\n"
		}
		checkSession(t, lines, want, len(list))
		if list[len(list)-1] != "" {
			checkSession(t, lines+"\n", want, len(list))
		}
	}
	for _, word := range []string{"", "here", "there", "same", "not", "wait", "ok", "bad", "none", "what", "yes", "-"} {
		if told[word] < 3 {
			t.Errorf("%q is told too seldom: %v", word, told)
		}
	}
}

// What is told of lines is told of them ahead of others as well.
func TestSessionOfTheFirstLines(t *testing.T) {
	for number := range uint32(6) {
		list := deskRow(100+number, 80)
		whole, _ := impl.Session(linesOf(list...))
		for n := 1; n < len(list); n++ {
			lines := strings.Join(list[:n], "\n") + "\n"
			first, count := impl.Session(lines)
			if count != n || !strings.HasPrefix(whole, first) {
				t.Fatalf("Session(%q) = %q, %d, of %q", lines, first, count, whole)
			}
		}
	}
}

func askingLines() []string {
	return []string{"shelf", "judge", "sent", "", ";", "; x", ";crash", "what", "help", " ", "crash now", "tick", "tick 01", "get 1", "ok 0 5", "purge 1 /a b", "SYNC", "fail 0 "}
}

func TestPromise20WhatAsksTurnsNothing(t *testing.T) {
	caches := slices.Concat(rightCaches(), wrongCaches(), movedCaches(), shownCaches())
	for _, c := range append(caches, judged(), bannedSince(), withLists(busy(), 1500, 1500)) {
		for _, line := range askingLines() {
			if got, _ := checkLine(t, c, line); !sameCache(got, c) {
				t.Fatalf("%q turns %s into %s", line, inShort(c), inShort(got))
			}
		}
	}
	for number := range uint32(12) {
		c := impl.CacheNew()
		for at, d := range judgeRow(800+number, 160) {
			if c, _ = impl.CacheRun(c, []impl.Deed{d}); at%4 > 0 {
				continue
			}
			for _, line := range append(askingLines(), deskRow(number+uint32(at), 20)...) {
				if got, text := checkLine(t, c, line); turnsNothing(line) && !sameCache(got, c) {
					t.Fatalf("%q, which tells %q, turns %s into %s", line, text, inShort(c), inShort(got))
				}
			}
		}
	}
}

// What is refused turns nothing, either.
func TestPromise20WhatIsRefusedTurnsNothing(t *testing.T) {
	refused := map[string]int{}
	for number := range uint32(30) {
		c := impl.CacheNew()
		for _, line := range deskRow(200+number, 80) {
			after, text := checkLine(t, c, line)
			if slices.Contains([]string{"bad", "none", "full", "what"}, text) {
				if refused[text]++; !sameCache(after, c) {
					t.Fatalf("%q, which tells %q, turns %s into %s", line, text, inShort(c), inShort(after))
				}
			}
			c = after
		}
	}
	if refused["bad"] < 20 || refused["none"] < 20 || refused["what"] < 20 {
		t.Errorf("too little was refused: %v", refused)
	}
}

// Whoever asks between the lines is told, but nobody else is told otherwise.
func TestPromise20AskedBetweenTheLines(t *testing.T) {
	asking := askingLines()
	for number := range uint32(60) {
		list := slices.DeleteFunc(deskRow(300+number, 60), func(line string) bool { return line == "" || line[0] == ';' || turnsNothing(line) })
		list = list[:min(len(list), 26)]
		var between, all []string
		for i, line := range list {
			ask := asking[(i+int(number))%len(asking)]
			between = append(between, line, ask, asking[(i*7+int(number))%3])
		}
		told, n := impl.Session(linesOf(between...))
		c, text := impl.CacheNew(), ""
		for i, line := range between {
			if c, text = impl.CacheLine(c, line); text != "" && i%3 == 0 {
				all = append(all, text)
			} else if text != "" && !strings.Contains(told, text+"\n") {
				t.Fatalf("%q tells %q, which is not in %q", line, text, told)
			}
		}
		alone, _ := impl.Session(linesOf(list...))
		if n != len(between) || strings.Join(all, "\n")+"\n" != alone {
			t.Fatalf("of %q there is told %q, not %q", between, all, alone)
		}
	}
}

// All that a session leads to is well, and its answers are those of its deeds.
func TestPromise20ASessionIsItsDeeds(t *testing.T) {
	for number := range uint32(40) {
		list := deskRow(400+number, 79)
		c := impl.CacheNew()
		var deeds []impl.Deed
		for _, line := range list {
			c, _ = impl.CacheLine(c, line)
			if d, isDeed := deedByHand(line); isDeed {
				deeds = append(deeds, d)
			}
		}
		if run, _ := impl.CacheRun(impl.CacheNew(), deeds); !sameCache(run, c) || !impl.JudgeAll(c) {
			t.Fatalf("%q leads to %s, not to %s", list, inShort(c), inShort(run))
		}
		last := impl.ReplyText(c.Sent[len(c.Sent)-1])
		if told, n := impl.Session(linesOf(append(list, "sent")...)); n != 80 || !strings.HasSuffix(told, "\n"+last+"\n") {
			t.Fatalf("Session(%q) = %q, %d, which does not end with %q", list, told, n, last)
		}
	}
}

func TestPromise20OverAllShortSessions(t *testing.T) {
	lines := []string{"get 1 /a", "get 2 /a de", "ok 0 2 x v", "same 0", "fail 0", "tick 2", "purge 3 /a", "crash", "shelf", "sent", ""}
	for _, row := range textLists(lines, 4) {
		whole := strings.Join(row, "\n") + "\n"
		c, want, text := impl.CacheNew(), "", ""
		for _, line := range row {
			if c, text = impl.CacheLine(c, line); text != "" {
				want += text + "\n"
			}
		}
		if told, n := impl.Session(whole); len(row) > 0 && (told != want || n != len(row)) {
			t.Fatalf("Session(%q) = %q, %d, not %q", whole, told, n, want)
		}
	}
}

func deskCaches() []impl.Cache {
	tight := withLists(busy(), 9, 30)
	tight.Flights, tight.Shelf.Bans = manyFlights(5), manyBans(5)
	return append(movedCaches(), judged(), bannedSince(), tight)
}

func TestDeskWritesIntoNothing(t *testing.T) {
	for _, was := range deskCaches() {
		c := roomy(was)
		before := partsText(c)
		for _, line := range deskLines() {
			got, _ := impl.CacheLine(c, line)
			turnParts(got)
			got.Sent, got.Seen, got.Flights = append(got.Sent, impl.Reply{}), append(got.Seen, impl.Seen{}), append(got.Flights, impl.Flight{})
			for i := range got.Flights {
				got.Flights[i].Who = append(got.Flights[i].Who, 5)
			}
			if partsText(c) != before {
				t.Fatalf("%s was written into by %q, or its room: %s", inShort(was), line, inShort(c))
			}
		}
		for _, line := range deskLines() {
			checkLine(t, c, line)
		}
	}
}

func TestDeskIsNewMemory(t *testing.T) {
	for _, was := range deskCaches() {
		for _, one := range append(deskLines(), "get 5 /a/path/of/some/length with-a-value", "ok 0 5 a-body-of-some-length a-tag-of-some-length", "purge 5 /a/path/of/some/length") {
			c, line := roomy(was), strings.Clone(one)
			givenTexts, given := partsTextsAndSpans(c)
			givenSpans := textSpans(append(givenTexts, line))
			got, text := impl.CacheLine(c, line)
			texts, told := partsTextsAndSpans(got)
			for i, one := range told {
				if slices.ContainsFunc(told[:i], one.meets) || slices.ContainsFunc(given, one.meets) {
					t.Fatalf("a list of %s shares memory with another one", inShort(got))
				}
			}
			for _, one := range textSpans(append(texts, text)) {
				if meetsAny(one, givenSpans) {
					t.Fatalf("a text of %s, or %q, shares memory with an argument", inShort(got), text)
				}
			}
			runtime.KeepAlive(c)
			runtime.KeepAlive(line)
			runtime.KeepAlive(texts)
		}
	}
	lines := strings.Clone(linesOf("get 1 /a/path/of/some/length", "ok 0 5 x", "shelf", "what"))
	told, _ := impl.Session(lines)
	if shares(told, lines) {
		t.Errorf("%q shares memory with an argument", told)
	}
}

// What a line does is done again, whatever was done between, as nothing is
// kept.
func TestDeskKeepsNothing(t *testing.T) {
	caches, lines := append(deskCaches(), impl.Cache{}), deskLines()
	for range 2 {
		for i := range 4 * len(lines) {
			checkLine(t, caches[(i*5)%len(caches)], lines[(i*7)%len(lines)])
			if i%9 == 0 {
				list := linesOf(deskRow(uint32(i), 30)...)
				byHand, n := sessionByHand(list)
				checkSession(t, list, byHand, n)
			}
		}
	}
}

func TestDeskAtTheSameTime(t *testing.T) {
	lines := linesOf(deskRow(77, 80)...)
	wantTold, wantCount := sessionByHand(lines)
	for _, c := range deskCaches() {
		var joined sync.WaitGroup
		start := make(chan struct{})
		all := deskLines()
		got, told := make([]impl.Cache, len(all)), make([]string, len(all))
		sessions, counts := make([]string, len(all)), make([]int, len(all))
		for i, line := range all {
			joined.Go(func() {
				<-start
				got[i], told[i] = impl.CacheLine(c, line)
				if i%9 == 0 {
					sessions[i], counts[i] = impl.Session(lines)
				}
			})
		}
		close(start)
		joined.Wait()
		for i, line := range all {
			if want, text := cacheLineByHand(c, line); !sameCache(got[i], want) || told[i] != text {
				t.Fatalf("CacheLine(%s, %q) = %s, %q", inShort(c), line, inShort(got[i]), told[i])
			}
			if i%9 == 0 && (sessions[i] != wantTold || counts[i] != wantCount) {
				t.Fatalf("Session(%q) = %q, %d", lines, sessions[i], counts[i])
			}
		}
	}
}

func TestPromise20DeskAnswersAnything(t *testing.T) {
	long := strings.Repeat("x", 20000)
	odd := impl.Obj{Path: long, Names: make([]string, 100), Values: make([]string, 100), Resp: impl.Resp{Status: math.MinInt, Fields: make([]impl.Field, 100), Body: long}, T: math.MaxInt}
	asked := impl.Req{Method: math.MinInt, Path: long, Fields: make([]impl.Field, 1000), Body: long}
	said := impl.Resp{Status: math.MaxInt, Fields: append(make([]impl.Field, 1000), fieldsOf("age", long)...), Body: long}
	strange := busy()
	strange.Seen = []impl.Seen{{Q: asked, Resp: said, T: math.MinInt}}
	strange.Sent = []impl.Reply{{Client: math.MinInt, Q: asked, Resp: said, Kind: impl.AnSame, T: math.MaxInt, Obj: odd, Bans: math.MinInt}}
	strange.Flights[0].Old, strange.Flights[0].Who = odd, []int{math.MinInt, math.MaxInt}
	wide := busy()
	wide.Flights = slices.Repeat([]impl.Flight{{Q: asked, Who: make([]int, 1000), Old: odd}}, 300)
	much := impl.Cache{Shelf: impl.Shelf{Objs: make([]impl.Kept, 1000)}, Flights: make([]impl.Flight, 1000), Now: math.MinInt, Seen: make([]impl.Seen, 5000), Sent: make([]impl.Reply, 5000)}
	lines := append(deskLines(), long, strings.Repeat(" ", 100000), strings.Repeat("0 ", 50000), "get "+long, "get 1 "+long, "get 1 /a "+long, "ok 0 5 "+long, "ok 0 5 x "+long, "ok 0 "+strings.Repeat("9", 50000)+" x", "tick "+strings.Repeat("9", 50000), strings.Repeat("get ", 20000), strings.Repeat("\x00", 1000), "get 1 /a"+strings.Repeat(" /a", 20000))
	for _, c := range []impl.Cache{strange, wide, much} {
		for _, line := range lines {
			checkLine(t, c, line)
		}
	}
	checkLineTurnsNothing(t, strange, "sent", " same  "+long)
	for _, line := range lines {
		byHand, n := sessionByHand(line)
		checkSession(t, line, byHand, n)
		byHand, n = sessionByHand("get 1 /a\n" + line + "\nsent\n" + line)
		checkSession(t, "get 1 /a\n"+line+"\nsent\n"+line, byHand, n)
	}
}
