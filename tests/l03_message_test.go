package tests

import (
	"fmt"
	"math"
	"regexp"
	"slices"
	"strconv"
	"strings"
	"testing"

	"loop.example/g00239/impl"
)

var methodWords = map[int]string{impl.MtGet: "GET", impl.MtHead: "HEAD", impl.MtPost: "POST", impl.MtPurge: "PURGE"}

func bytesFrom(first, n int) string {
	out := make([]byte, n)
	for i := range out {
		out[i] = byte(first + i)
	}
	return string(out)
}

// rightBodies has bodies that look like heads, and all bytes.
func rightBodies() []string {
	return []string{
		"", "x", " ", "\r", "\n", "\r\n", "\r\n\r\n", "x\r\n", "\x00", "\xff", "\xc3", "\u00e4\u20ac",
		"GET / HTTP/1.1\r\n\r\n", "\r\nGET / HTTP/1.1\r\n\r\n", "HTTP/1.1 200 .\r\ncontent-length: 0\r\n\r\n",
		"content-length: 3\r\n\r\nabc", "a: 1\r\n", "lang: en\r\ncontent-length: 1\r\n\r\nx", "content-length: 24\r\n\r\n\r\n\r\n",
		bytesFrom(0, impl.MaxBody), bytesFrom(80, impl.MaxBody), bytesFrom(136, impl.MaxBody),
		strings.Repeat("x", impl.MaxBody-1), strings.Repeat("\r\n", impl.MaxBody/2), strings.Repeat("\xff", impl.MaxBody),
	}
}

func rightPaths() []string {
	return []string{
		"/", "//", "/a", "/a/b.html?x=1&y=%20", "/HTTP/1.1", "/:", "/content-length:", "/GET", "/!", "/~", "/!\"#$%&'()*+,-.", "/[\\]^_`{|}",
		"/" + strings.Repeat("a", impl.MaxText-2), "/" + strings.Repeat("~", impl.MaxText-1),
	}
}

// messageLists tells right fields, also such as are easily cut at a wrong
// place.
func messageLists() [][]impl.Field {
	return append(rightLists(),
		fieldsOf("a", "b: c", "b", "content-length: 3", "c", ":", "d", ": x"),
		fieldsOf("get", "GET / HTTP/1.1", "http", "HTTP/1.1 200 ."),
		fieldsOf("a", "content-length", "content-length-", "3"),
	)
}

func rightReqs() []impl.Req {
	var all []impl.Req
	for method := impl.MtGet; method <= impl.MtPurge; method++ {
		for _, path := range rightPaths() {
			for _, list := range messageLists() {
				for _, body := range rightBodies() {
					all = append(all, impl.Req{Method: method, Path: path, Fields: list, Body: body})
				}
			}
		}
	}
	return all
}

func rightResps() []impl.Resp {
	var all []impl.Resp
	for _, status := range []int{100, 101, 200, 204, 304, 404, 503, 504, 598, 599} {
		for _, list := range messageLists() {
			for _, body := range rightBodies() {
				all = append(all, impl.Resp{Status: status, Fields: list, Body: body})
			}
		}
	}
	for status := 100; status <= 599; status++ {
		all = append(all, impl.Resp{Status: status}, impl.Resp{Status: status, Fields: fieldsOf("a", "1"), Body: "x"})
	}
	return all
}

func sameReq(a, b impl.Req) bool {
	return a.Method == b.Method && a.Path == b.Path && slices.Equal(a.Fields, b.Fields) && a.Body == b.Body
}

func sameResp(a, b impl.Resp) bool {
	return a.Status == b.Status && slices.Equal(a.Fields, b.Fields) && a.Body == b.Body
}

func fieldLines(list []impl.Field) string {
	out := ""
	for _, f := range list {
		out += f.Name + ": " + f.Value + "\x0d\x0a"
	}
	return out
}

func reqTextByHand(r impl.Req) string {
	length := ""
	if r.Body != "" {
		length = fmt.Sprintf("content-length: %d\x0d\x0a", len(r.Body))
	}
	return fmt.Sprintf("%s %s HTTP/1.1\x0d\x0a%s%s\x0d\x0a%s", methodWords[r.Method], r.Path, fieldLines(r.Fields), length, r.Body)
}

func respTextByHand(r impl.Resp) string {
	return fmt.Sprintf("HTTP/1.1 %d .\x0d\x0a%scontent-length: %d\x0d\x0a\x0d\x0a%s", r.Status, fieldLines(r.Fields), len(r.Body), r.Body)
}

var (
	reqFirst  = regexp.MustCompile(`^(GET|HEAD|POST|PURGE) (/[!-~]{0,59}) HTTP/1\.1\x0d\x0a`)
	respFirst = regexp.MustCompile(`^HTTP/1\.1 ([1-5][0-9][0-9]) \.\x0d\x0a`)
	fieldForm = regexp.MustCompile(`^([a-z0-9-]{1,20}): ([!-~]|[!-~][ -~]{0,58}[!-~])\x0d\x0a`)
)

// restByHand reads what stands behind the first line, line by line, by the
// forms that the document names.
func restByHand(rest string, alwaysTold bool) (fields []impl.Field, body string, ok bool) {
	told := ""
	for told == "" {
		line := fieldForm.FindStringSubmatch(rest)
		if line == nil {
			break
		}
		rest = rest[len(line[0]):]
		if line[1] == "content-length" {
			told = line[2]
		} else if indexOfName(fields, line[1]) >= 0 {
			return nil, "", false
		} else {
			fields = append(fields, impl.Field{Name: line[1], Value: line[2]})
		}
	}
	body, ok = strings.CutPrefix(rest, "\x0d\x0a")
	wanted := ""
	if alwaysTold || body != "" {
		wanted = strconv.Itoa(len(body))
	}
	if !ok || told != wanted || len(fields) > 8 || len(body) > 120 {
		return nil, "", false
	}
	return fields, body, true
}

func reqByHand(s string) (impl.Req, bool) {
	first := reqFirst.FindStringSubmatch(s)
	if first == nil {
		return impl.Req{}, false
	}
	fields, body, ok := restByHand(s[len(first[0]):], false)
	if !ok {
		return impl.Req{}, false
	}
	for method, word := range methodWords {
		if word == first[1] {
			return impl.Req{Method: method, Path: first[2], Fields: fields, Body: body}, true
		}
	}
	return impl.Req{}, false
}

func respByHand(s string) (impl.Resp, bool) {
	first := respFirst.FindStringSubmatch(s)
	if first == nil {
		return impl.Resp{}, false
	}
	fields, body, ok := restByHand(s[len(first[0]):], true)
	if !ok {
		return impl.Resp{}, false
	}
	status, _ := strconv.Atoi(first[1])
	return impl.Resp{Status: status, Fields: fields, Body: body}, true
}

// checkReqRead holds ReqRead to what was read by hand, and to its own text.
func checkReqRead(t *testing.T, s string) {
	t.Helper()
	want, wantOk := reqByHand(s)
	got, ok := impl.ReqRead(s)
	if !sameReq(got, want) || ok != wantOk {
		t.Fatalf("ReqRead(%#v) = %#v, %v, not %#v, %v", s, got, ok, want, wantOk)
	}
	if ok && (impl.ReqText(got) != s || !impl.ReqOk(got)) {
		t.Fatalf("ReqRead(%#v) = %#v, whose text is %#v", s, got, impl.ReqText(got))
	}
}

func checkRespRead(t *testing.T, s string) {
	t.Helper()
	want, wantOk := respByHand(s)
	got, ok := impl.RespRead(s)
	if !sameResp(got, want) || ok != wantOk {
		t.Fatalf("RespRead(%#v) = %#v, %v, not %#v, %v", s, got, ok, want, wantOk)
	}
	if ok && (impl.RespText(got) != s || !impl.RespOk(got)) {
		t.Fatalf("RespRead(%#v) = %#v, whose text is %#v", s, got, impl.RespText(got))
	}
}

func checkReads(t *testing.T, s string) {
	t.Helper()
	checkReqRead(t, s)
	checkRespRead(t, s)
}

// checkNone is for texts that are no message's, told without any reader.
func checkNone(t *testing.T, s string) {
	t.Helper()
	if r, ok := impl.ReqRead(s); ok || !sameReq(r, impl.Req{}) {
		t.Errorf("ReqRead(%#v) = %#v, %v", s, r, ok)
	}
	if r, ok := impl.RespRead(s); ok || !sameResp(r, impl.Resp{}) {
		t.Errorf("RespRead(%#v) = %#v, %v", s, r, ok)
	}
}

func TestMessageLimits(t *testing.T) {
	if impl.MaxBody != 120 || impl.MtGet != 1 || impl.MtHead != 2 || impl.MtPost != 3 || impl.MtPurge != 4 {
		t.Error("limits", impl.MaxBody, impl.MtGet, impl.MtHead, impl.MtPost, impl.MtPurge)
	}
}

func TestReqOkMethod(t *testing.T) {
	for method := -10; method <= 300; method++ {
		if got := impl.ReqOk(impl.Req{Method: method, Path: "/"}); got != (1 <= method && method <= 4) {
			t.Errorf("ReqOk of the method %d = %v", method, got)
		}
	}
	for _, method := range []int{math.MinInt, math.MaxInt, 1<<8 + 1, 1<<16 + 1, 1<<32 + 1, 1<<62 + 1, -impl.MtGet} {
		if impl.ReqOk(impl.Req{Method: method, Path: "/"}) {
			t.Errorf("ReqOk of the method %d is true", method)
		}
	}
}

func TestReqOkPath(t *testing.T) {
	pathOk := func(path string) bool { return impl.ReqOk(impl.Req{Method: impl.MtGet, Path: path}) }
	for _, path := range rightPaths() {
		if !pathOk(path) {
			t.Errorf("ReqOk of the path %q is false", path)
		}
	}
	if pathOk("") {
		t.Error("ReqOk of the empty path is true")
	}
	for n := 1; n <= 300; n++ {
		if got := pathOk("/" + strings.Repeat("a", n-1)); got != (n <= 60) {
			t.Errorf("ReqOk of a path of %d bytes = %v", n, got)
		}
		if pathOk(strings.Repeat("a", n)) {
			t.Errorf("ReqOk of a path of %d bytes without / is true", n)
		}
	}
	for _, b := range singleBytes() {
		if got := pathOk(b); got != (b == "/") {
			t.Errorf("ReqOk of the path %q = %v", b, got)
		}
		if got := pathOk(b + "/"); got != (b == "/") {
			t.Errorf("ReqOk of the path %q = %v", b+"/", got)
		}
		right := 33 <= b[0] && b[0] <= 126
		for _, path := range []string{"/" + b, "/" + b + "a", "/a" + b, "/" + strings.Repeat("a", impl.MaxText-2) + b} {
			if got := pathOk(path); got != right {
				t.Errorf("ReqOk of the path %q = %v", path, got)
			}
		}
	}
	for _, s := range oddTexts() {
		right := strings.IndexFunc(s, func(r rune) bool { return r < 33 || r > 126 }) < 0
		if got := pathOk("/" + s); got != right {
			t.Fatalf("ReqOk of the path %q = %v", "/"+s, got)
		}
	}
}

func TestRespOkStatus(t *testing.T) {
	for status := -1000; status <= 3000; status++ {
		if got := impl.RespOk(impl.Resp{Status: status}); got != (100 <= status && status <= 599) {
			t.Errorf("RespOk of %d = %v", status, got)
		}
	}
	for _, status := range []int{math.MinInt, math.MaxInt, 1<<16 + 200, 1<<32 + 200, 1<<62 + 200} {
		if impl.RespOk(impl.Resp{Status: status}) {
			t.Errorf("RespOk of %d is true", status)
		}
	}
}

func bothOk(list []impl.Field, body string) (bool, bool) {
	return impl.ReqOk(impl.Req{Method: impl.MtPost, Path: "/", Fields: list, Body: body}), impl.RespOk(impl.Resp{Status: 200, Fields: list, Body: body})
}

func TestMessageOkBody(t *testing.T) {
	for n := range 3 * impl.MaxBody {
		for _, letter := range []string{"x", "\xff", "\n", " "} {
			asked, told := bothOk(nil, strings.Repeat(letter, n))
			if asked != (n <= 120) || told != (n <= 120) {
				t.Errorf("ReqOk, RespOk of a body of %d times %q = %v, %v", n, letter, asked, told)
			}
		}
	}
	// 60 runes of two bytes each are as many bytes as may be.
	if asked, told := bothOk(nil, strings.Repeat("\u00e4", 60)); !asked || !told {
		t.Error("a body of 60 runes and 120 bytes is not taken")
	}
	if asked, told := bothOk(nil, strings.Repeat("\u00e4", 61)); asked || told {
		t.Error("a body of 61 runes and 122 bytes is taken")
	}
}

func TestMessageOkFields(t *testing.T) {
	for _, list := range append(allLists(), messageLists()...) {
		want := impl.FieldsOk(list)
		if asked, told := bothOk(list, "x"); asked != want || told != want {
			t.Fatalf("ReqOk, RespOk of the fields %q = %v, %v", list, asked, told)
		}
	}
}

func TestReqText(t *testing.T) {
	for _, c := range []struct {
		r    impl.Req
		want string
	}{
		{impl.Req{Method: impl.MtGet, Path: "/"}, "GET / HTTP/1.1\r\n\r\n"},
		{impl.Req{Method: impl.MtHead, Path: "/a", Fields: []impl.Field{}}, "HEAD /a HTTP/1.1\r\n\r\n"},
		{impl.Req{Method: impl.MtPost, Path: "/a", Body: "x"}, "POST /a HTTP/1.1\r\ncontent-length: 1\r\n\r\nx"},
		{impl.Req{Method: impl.MtPurge, Path: "/a", Fields: fieldsOf("b", "2", "a", "x y")}, "PURGE /a HTTP/1.1\r\nb: 2\r\na: x y\r\n\r\n"},
		{impl.Req{Method: impl.MtGet, Path: "/a", Fields: fieldsOf("b", "2"), Body: "\r\n"}, "GET /a HTTP/1.1\r\nb: 2\r\ncontent-length: 2\r\n\r\n\r\n"},
		{impl.Req{Method: impl.MtPost, Path: "/", Body: strings.Repeat("\u00e4", 60)}, "POST / HTTP/1.1\r\ncontent-length: 120\r\n\r\n" + strings.Repeat("\u00e4", 60)},
	} {
		if got := impl.ReqText(c.r); got != c.want {
			t.Errorf("ReqText(%#v) = %#v, not %#v", c.r, got, c.want)
		}
	}
	for _, r := range rightReqs() {
		if got, want := impl.ReqText(r), reqTextByHand(r); got != want {
			t.Fatalf("ReqText(%#v) = %#v, not %#v", r, got, want)
		}
	}
}

func TestRespText(t *testing.T) {
	for _, c := range []struct {
		r    impl.Resp
		want string
	}{
		{impl.Resp{Status: 100}, "HTTP/1.1 100 .\r\ncontent-length: 0\r\n\r\n"},
		{impl.Resp{Status: 599, Fields: []impl.Field{}}, "HTTP/1.1 599 .\r\ncontent-length: 0\r\n\r\n"},
		{impl.Resp{Status: 304, Fields: fieldsOf("etag", "t")}, "HTTP/1.1 304 .\r\netag: t\r\ncontent-length: 0\r\n\r\n"},
		{impl.Resp{Status: 200, Fields: fieldsOf("b", "2", "a", "1"), Body: "\r\n"}, "HTTP/1.1 200 .\r\nb: 2\r\na: 1\r\ncontent-length: 2\r\n\r\n\r\n"},
		{impl.Resp{Status: 200, Body: strings.Repeat("x", 120)}, "HTTP/1.1 200 .\r\ncontent-length: 120\r\n\r\n" + strings.Repeat("x", 120)},
	} {
		if got := impl.RespText(c.r); got != c.want {
			t.Errorf("RespText(%#v) = %#v, not %#v", c.r, got, c.want)
		}
	}
	for _, r := range rightResps() {
		if got, want := impl.RespText(r), respTextByHand(r); got != want {
			t.Fatalf("RespText(%#v) = %#v, not %#v", r, got, want)
		}
	}
}

func wrongReqs() []impl.Req {
	get := impl.Req{Method: impl.MtGet, Path: "/a", Fields: fieldsOf("a", "1")}
	all := []impl.Req{{}, {Method: impl.MtGet}, {Path: "/"}}
	for _, method := range []int{-1, 0, 5, 6, math.MinInt, math.MaxInt} {
		r := get
		r.Method = method
		all = append(all, r)
	}
	for _, path := range []string{"", "a", " /", "a/", "/ ", "/a b", "/\x7f", "/\x1f", "/\r\n", "/\xff", "/\u00e4", "/" + strings.Repeat("a", impl.MaxText)} {
		r := get
		r.Path = path
		all = append(all, r)
	}
	for _, list := range oddLists() {
		if !impl.FieldsOk(list) {
			r := get
			r.Fields = list
			all = append(all, r)
		}
	}
	get.Body = strings.Repeat("x", impl.MaxBody+1)
	return append(all, get)
}

func wrongResps() []impl.Resp {
	var all []impl.Resp
	for _, status := range []int{-1, 0, 1, 99, 600, 1000, math.MinInt, math.MaxInt} {
		all = append(all, impl.Resp{Status: status})
	}
	for _, list := range oddLists() {
		if !impl.FieldsOk(list) {
			all = append(all, impl.Resp{Status: 200, Fields: list})
		}
	}
	return append(all, impl.Resp{Status: 200, Body: strings.Repeat("x", impl.MaxBody+1)})
}

func TestWrongMessagesHaveNoText(t *testing.T) {
	for _, r := range wrongReqs() {
		if got := impl.ReqText(r); got != "" || impl.ReqOk(r) {
			t.Errorf("ReqText(%#v) = %#v", r, got)
		}
		// What their text would be is read as nothing, either.
		checkNone(t, reqTextByHand(r))
	}
	for _, r := range wrongResps() {
		if got := impl.RespText(r); got != "" || impl.RespOk(r) {
			t.Errorf("RespText(%#v) = %#v", r, got)
		}
		checkNone(t, respTextByHand(r))
	}
}

func TestReadOfAnOrdinaryMessage(t *testing.T) {
	want := impl.Req{Method: impl.MtPost, Path: "/a", Fields: fieldsOf("lang", "de", "b", "x: y"), Body: "a: 1\r\n\r\nz"}
	got, ok := impl.ReqRead("POST /a HTTP/1.1\r\nlang: de\r\nb: x: y\r\ncontent-length: 9\r\n\r\na: 1\r\n\r\nz")
	if !ok || !sameReq(got, want) {
		t.Errorf("ReqRead = %#v, %v", got, ok)
	}
	wantResp := impl.Resp{Status: 404, Fields: fieldsOf("lang", "de"), Body: "content-length: 0\r\n\r\n"}
	gotResp, ok := impl.RespRead("HTTP/1.1 404 .\r\nlang: de\r\ncontent-length: 21\r\n\r\ncontent-length: 0\r\n\r\n")
	if !ok || !sameResp(gotResp, wantResp) {
		t.Errorf("RespRead = %#v, %v", gotResp, ok)
	}
}

func TestWrongFirstLines(t *testing.T) {
	for _, first := range []string{
		"", " ", "GET", "GET ", "GET /a", "GET /a ", "GET  HTTP/1.1", "GET /a HTTP/1.", "GET /a HTTP/1.0", "GET /a HTTP/1.11", "GET /a HTTP/1.1 ", "GET /a http/1.1",
		"get /a HTTP/1.1", "Get /a HTTP/1.1", "GETS /a HTTP/1.1", "GE /a HTTP/1.1", "PUT /a HTTP/1.1", "DELETE /a HTTP/1.1", "1 /a HTTP/1.1", " /a HTTP/1.1", "/a HTTP/1.1",
		" GET /a HTTP/1.1", "GET  /a HTTP/1.1", "GET /a  HTTP/1.1", "GET /a b HTTP/1.1", "GET /a HTTP/1.1 HTTP/1.1", "GET\t/a HTTP/1.1", "GET a HTTP/1.1", "GET /a\tHTTP/1.1",
		"GET /\xff HTTP/1.1", "GET /\u00e4 HTTP/1.1", "GET /\x00 HTTP/1.1", "GET /" + strings.Repeat("a", 60) + " HTTP/1.1", "\x00GET /a HTTP/1.1", "\r\nGET /a HTTP/1.1", "GET /\r\na HTTP/1.1",
		"HTTP/1.1", "HTTP/1.1 ", "HTTP/1.1 200", "HTTP/1.1 200 ", "HTTP/1.1 200.", "HTTP/1.1 200 OK", "HTTP/1.1 200 ..", "HTTP/1.1 200 . ", "HTTP/1.1 200  .", "HTTP/1.1  200 .",
		"HTTP/1.0 200 .", "http/1.1 200 .", " HTTP/1.1 200 .", "200 .", "HTTP/1.1 20 .", "HTTP/1.1 0200 .", "HTTP/1.1 2000 .", "HTTP/1.1 +200 .", "HTTP/1.1 -200 .", "HTTP/1.1 2x0 .",
		"HTTP/1.1 99 .", "HTTP/1.1 099 .", "HTTP/1.1 600 .", "HTTP/1.1 0 .", "HTTP/1.1 . .", "HTTP/1.1 1000001 .", "HTTP/1.1 18446744073709551816 .", "\r\nHTTP/1.1 200 .",
	} {
		for _, rest := range []string{"", "\r\n", "\r\n\r\n", "\r\ncontent-length: 0\r\n\r\n", "\r\ncontent-length: 1\r\n\r\nx", "\r\na: 1\r\n\r\n"} {
			checkNone(t, first+rest)
			checkReads(t, first+rest)
		}
	}
}

func TestWrongFieldLines(t *testing.T) {
	for _, lines := range []string{
		"a:1\r\n", "a : 1\r\n", "a:  1\r\n", "a: 1 \r\n", " a: 1\r\n", "a: \r\n", "a:\r\n", "a\r\n", ": 1\r\n", ": \r\n", "A: 1\r\n", "a\t: 1\r\n", "a: 1\n", "a: 1\r", "a: 1\r\r\n", "a: 1\n\r\n",
		"a: 1\r\na: 1\r\n", "a: 1\r\na: 2\r\n", "a: 1\r\nb: 2\r\na: 1\r\n", "a: 1\r\n\r\nb: 2\r\n", "\r\na: 1\r\n", "a: 1\r\nb\r\n", "a: 1\r\n b\r\n", "a: \xff\r\n", "a: \x00\r\n", "\u00e4: 1\r\n",
		"a: " + strings.Repeat("x", impl.MaxText+1) + "\r\n", strings.Repeat("a", 21) + ": 1\r\n", impl.FieldsText(manyFields(9)), impl.FieldsText(manyFields(10)), impl.FieldsText(manyFields(2000)),
		"Content-Length: 1\r\n", "CONTENT-LENGTH: 1\r\n",
	} {
		for _, body := range []string{"", "x"} {
			length := fmt.Sprintf("content-length: %d\r\n", len(body))
			checkNone(t, "GET /a HTTP/1.1\r\n"+lines+"\r\n"+body)
			checkNone(t, "GET /a HTTP/1.1\r\n"+lines+length+"\r\n"+body)
			checkNone(t, "HTTP/1.1 200 .\r\n"+lines+length+"\r\n"+body)
			checkNone(t, "HTTP/1.1 200 .\r\n"+lines+"\r\n"+body)
		}
	}
}

// lengthForms are lines that tell n in a way that no text does.
func lengthForms(n int) []string {
	digits := strconv.Itoa(n)
	return []string{
		"0" + digits, "00" + digits, "+" + digits, "-" + digits, " " + digits, digits + " ", digits + ".", digits + ".0", digits + "x", digits + ",", "0x" + strconv.FormatInt(int64(n), 16),
		strconv.Itoa(n + 1), strconv.Itoa(n - 1), strconv.Itoa(n + 1000), digits + "0", digits + digits, digits + " " + digits, "", " ", "-1", "x",
		"18446744073709551616", strconv.FormatUint(math.MaxUint64-uint64(n), 10), "1000001", "\uff11", digits + "\x00", digits + "\n", digits + "\r",
	}
}

func TestWrongLengths(t *testing.T) {
	for _, n := range []int{0, 1, 3, 9, 10, 119, 120} {
		body := strings.Repeat("x", n)
		for _, lines := range []string{"", "a: 1\r\n"} {
			for _, form := range lengthForms(n) {
				checkNone(t, "POST /a HTTP/1.1\r\n"+lines+"content-length: "+form+"\r\n\r\n"+body)
				checkNone(t, "HTTP/1.1 200 .\r\n"+lines+"content-length: "+form+"\r\n\r\n"+body)
			}
			right := fmt.Sprintf("content-length: %d\r\n", n)
			for _, length := range []string{
				right + right, right + "b: 2\r\n", right + "content-length: 0\r\n", "content-length: 0\r\n" + right, right + right + right,
				strings.TrimSuffix(right, "\r\n"), strings.ReplaceAll(right, ": ", ":"), strings.ReplaceAll(right, "c", "C"), " " + right, "\r\n" + right,
			} {
				checkNone(t, "POST /a HTTP/1.1\r\n"+lines+length+"\r\n"+body)
				checkNone(t, "HTTP/1.1 200 .\r\n"+lines+length+"\r\n"+body)
			}
			checkNone(t, "HTTP/1.1 200 .\r\n"+lines+"\r\n"+body)
			if n > 0 {
				checkNone(t, "POST /a HTTP/1.1\r\n"+lines+"\r\n"+body)
			} else {
				checkNone(t, "POST /a HTTP/1.1\r\n"+lines+right+"\r\n")
			}
		}
	}
	long := strings.Repeat("x", 121)
	checkNone(t, "POST /a HTTP/1.1\r\ncontent-length: 121\r\n\r\n"+long)
	checkNone(t, "HTTP/1.1 200 .\r\ncontent-length: 121\r\n\r\n"+long)
	checkNone(t, "POST /a HTTP/1.1\r\ncontent-length: 120\r\n\r\n"+long)
	checkNone(t, "HTTP/1.1 200 .\r\ncontent-length: 120\r\n\r\n"+long)
}

// someTexts are texts of messages of all kinds, few enough to turn each at
// every place.
func someTexts() []string {
	var all []string
	lists := [][]impl.Field{nil, fieldsOf("a", "1"), fieldsOf("ab", "x y", "b", "c: d"), manyFields(impl.MaxFields)}
	for i, body := range rightBodies() {
		list := lists[i%len(lists)]
		all = append(all,
			reqTextByHand(impl.Req{Method: 1 + i%4, Path: rightPaths()[i%len(rightPaths())], Fields: list, Body: body}),
			respTextByHand(impl.Resp{Status: 100 + 20*i, Fields: list, Body: body}))
	}
	for method := impl.MtGet; method <= impl.MtPurge; method++ {
		all = append(all, reqTextByHand(impl.Req{Method: method, Path: "/a", Fields: lists[method-1]}))
	}
	return all
}

func TestTextsCutShortOrLonger(t *testing.T) {
	for _, s := range someTexts() {
		for cut := range len(s) {
			checkNone(t, s[:cut])
			// A body may be a message itself.
			checkReads(t, s[cut:])
		}
		for _, b := range singleBytes() {
			checkNone(t, s+b)
			checkNone(t, b+s)
		}
		checkNone(t, s+s)
		checkNone(t, s+"\r\n")
	}
}

func TestLineEndsMissingOrDoubled(t *testing.T) {
	for _, s := range someTexts() {
		first, last := strings.Index(s, "\r\n"), strings.Index(s, "\r\n\r\n")+2
		for at := range last + 1 {
			if s[at:at+2] != "\r\n" {
				continue
			}
			for _, other := range []string{"\r", "\n", "\n\r", "\r\r\n", "\r\n\n", "\r\n\r\n", " \r\n", "\r\n ", "\x00"} {
				checkNone(t, s[:at]+other+s[at+2:])
			}
			for _, other := range []string{"", " "} {
				// Two lines of fields in one are one field.
				checkReads(t, s[:at]+other+s[at+2:])
				if at == first || at == last {
					checkNone(t, s[:at]+other+s[at+2:])
				}
			}
		}
	}
}

func TestTextsTurnedAtEachPlace(t *testing.T) {
	letters := []string{"\r", "\n", " ", ":", "/", "0", "1", "9", "a", "A", ".", "-", "~", "\x7f", "\x00", "\xff"}
	for _, s := range someTexts() {
		checkReads(t, s)
		for at := range len(s) {
			checkReads(t, s[:at]+s[at+1:])
			checkReads(t, s[:at]+s[at:at+1]+s[at:])
			for _, letter := range letters {
				checkReads(t, s[:at]+letter+s[at:])
				checkReads(t, s[:at]+letter+s[at+1:])
			}
		}
	}
}

func TestReadsOfAllOrdersOfLines(t *testing.T) {
	lines := []string{"\r\n", "a: 1\r\n", "b: 2\r\n", "content-length: 0\r\n", "content-length: 2\r\n", "x", "\r", "\n"}
	for _, rest := range textsOf(lines, 5) {
		checkReqRead(t, "GET /a HTTP/1.1\r\n"+rest)
		checkRespRead(t, "HTTP/1.1 200 .\r\n"+rest)
	}
}

func TestReadsOfAnyBytes(t *testing.T) {
	for _, s := range oddTexts() {
		checkNone(t, s)
		length := fmt.Sprintf("content-length: %d\r\n\r\n", len(s))
		checkReads(t, "GET /"+s+" HTTP/1.1\r\n\r\n")
		checkReads(t, "GET / HTTP/1.1\r\na: "+s+"\r\n\r\n")
		checkReads(t, "GET / HTTP/1.1\r\n"+s+": x\r\n\r\n")
		checkReads(t, "POST / HTTP/1.1\r\n"+length+s)
		checkReads(t, "HTTP/1.1 200 .\r\n"+s+": x\r\n"+length+s)
		checkReads(t, "HTTP/1.1 "+s+" .\r\n"+length+s)
	}
	for _, s := range []string{strings.Repeat("\r\n", 100000), strings.Repeat("a: 1\r\n", 100000), strings.Repeat(" ", 100000), strings.Repeat(": ", 100000), strings.Repeat("\xff", 100000)} {
		checkNone(t, s)
		checkNone(t, "GET / HTTP/1.1\r\n"+s)
		checkNone(t, "HTTP/1.1 200 .\r\n"+s)
	}
}

func TestMessagesAreNotWrittenInto(t *testing.T) {
	for _, list := range append(allLists(), messageLists()...) {
		for _, body := range []string{"", "x"} {
			front, whole := withRoom(list)
			before := slices.Clone(whole)
			q := impl.Req{Method: impl.MtPost, Path: "/a", Fields: front, Body: body}
			r := impl.Resp{Status: 200, Fields: front, Body: body}
			impl.ReqOk(q)
			impl.RespOk(r)
			impl.ReqText(q)
			impl.RespText(r)
			if !slices.Equal(whole, before) {
				t.Fatalf("%q was written into, or its room: %q", list, whole)
			}
		}
	}
}

func turnAll(list []impl.Field) {
	// Its spare room is the answer's own, too.
	list = list[:cap(list)]
	for i := range list {
		list[i] = impl.Field{Name: "turned", Value: "turned"}
	}
}

func TestReadMessagesAreNewMemory(t *testing.T) {
	for _, text := range someTexts() {
		s := strings.Clone(text)
		q, _ := impl.ReqRead(s)
		r, _ := impl.RespRead(s)
		if sharesAny(append(slices.Concat(q.Fields, r.Fields), impl.Field{Name: q.Path, Value: q.Body}, impl.Field{Value: r.Body}), s) {
			t.Errorf("what is read from %q shares memory with it", s)
		}
		qAgain, _ := impl.ReqRead(s)
		rAgain, _ := impl.RespRead(s)
		turnAll(q.Fields)
		turnAll(r.Fields)
		wantReq, _ := reqByHand(text)
		wantResp, _ := respByHand(text)
		if !sameReq(qAgain, wantReq) || !sameResp(rAgain, wantResp) || s != text {
			t.Errorf("what is read from %#v turned with another answer: %#v, %#v", text, qAgain, rAgain)
		}
		checkReads(t, s)
	}
}

func TestMessageTextsAreNewMemory(t *testing.T) {
	for _, text := range []string{"", "body"} {
		path, name, value, body := strings.Clone("/path"), strings.Clone("name"), strings.Clone("value"), strings.Clone(text)
		list := fieldsOf(name, value)
		for _, answer := range []string{
			impl.ReqText(impl.Req{Method: impl.MtGet, Path: path, Fields: list, Body: body}),
			impl.RespText(impl.Resp{Status: 200, Fields: list, Body: body}),
		} {
			if sharesAny(fieldsOf(answer, answer), path, name, value, body) {
				t.Errorf("the text %q shares memory with an argument", answer)
			}
		}
	}
}

func TestPromise3RequestsAreReadAsTheyWere(t *testing.T) {
	for _, r := range rightReqs() {
		text := impl.ReqText(r)
		if got, ok := impl.ReqRead(text); !ok || !sameReq(got, r) || !impl.ReqOk(r) {
			t.Fatalf("ReqRead(ReqText(%#v)) = ReqRead(%#v) = %#v, %v", r, text, got, ok)
		}
		if got, ok := impl.RespRead(text); ok || !sameResp(got, impl.Resp{}) {
			t.Fatalf("RespRead of a request's text %#v = %#v, %v", text, got, ok)
		}
	}
}

func TestPromise3AnswersAreReadAsTheyWere(t *testing.T) {
	for _, r := range rightResps() {
		text := impl.RespText(r)
		if got, ok := impl.RespRead(text); !ok || !sameResp(got, r) || !impl.RespOk(r) {
			t.Fatalf("RespRead(RespText(%#v)) = RespRead(%#v) = %#v, %v", r, text, got, ok)
		}
		if got, ok := impl.ReqRead(text); ok || !sameReq(got, impl.Req{}) {
			t.Fatalf("ReqRead of an answer's text %#v = %#v, %v", text, got, ok)
		}
	}
}

func TestPromise3BodiesOfEachLengthAreReadAsTheyWere(t *testing.T) {
	for n := range impl.MaxBody + 1 {
		for first := range 256 {
			body := bytesFrom(first, n)
			q := impl.Req{Method: impl.MtPost, Path: "/a", Body: body}
			if got, ok := impl.ReqRead(impl.ReqText(q)); !ok || !sameReq(got, q) {
				t.Fatalf("the request %#v is read as %#v, %v", q, got, ok)
			}
			r := impl.Resp{Status: 200, Body: body}
			if got, ok := impl.RespRead(impl.RespText(r)); !ok || !sameResp(got, r) {
				t.Fatalf("the answer %#v is read as %#v, %v", r, got, ok)
			}
		}
	}
}
