package tests

import (
	"fmt"
	"math"
	"regexp"
	"slices"
	"strconv"
	"strings"
	"testing"

	"loop.example/g00239/impl"
)

var (
	pathForm    = regexp.MustCompile(`^/[!-~]{0,59}$`)
	valueForm   = regexp.MustCompile(`^([!-~]|[!-~][ -~]{0,58}[!-~])$`)
	objectFirst = regexp.MustCompile(`^obj (/[!-~]{0,59}) (0|[1-9][0-9]{0,6}) ([0-9])\x0a`)
)

// keeps is an object that is right where the values fit the names.
func keeps(vary string, values ...string) impl.Obj {
	o := impl.Obj{Path: "/a", Values: values, Resp: tells("cache-control", "max-age=5"), T: 7}
	if vary != "" {
		o.Resp.Fields = append(o.Resp.Fields, impl.Field{Name: "vary", Value: vary})
	}
	o.Names = varyByHand(o.Resp.Fields)
	return o
}

func sameObj(a, b impl.Obj) bool {
	return a.Path == b.Path && slices.Equal(a.Names, b.Names) && slices.Equal(a.Values, b.Values) && sameResp(a.Resp, b.Resp) && a.T == b.T
}

func objOkByHand(o impl.Obj) bool {
	for _, name := range o.Names {
		if !tokenForm.MatchString(name) {
			return false
		}
	}
	for _, value := range o.Values {
		if !valueForm.MatchString(value) {
			return false
		}
	}
	return impl.RespOk(o.Resp) && pathForm.MatchString(o.Path) && slices.Equal(o.Names, varyByHand(o.Resp.Fields)) &&
		len(o.Names) <= 4 && len(o.Values) == len(o.Names) && o.T >= 0 && o.T <= 1000000
}

func objOfByHand(q impl.Req, r impl.Resp, at int) (impl.Obj, bool) {
	if !mayKeepByHand(q, r) || at < 0 || at > 1000000 {
		return impl.Obj{}, false
	}
	names := varyByHand(r.Fields)
	return impl.Obj{Path: q.Path, Names: names, Values: valuesByHand(names, q.Fields), Resp: r, T: at}, true
}

// objTextByHand tells what would be the text, of what is not right, too.
func objTextByHand(o impl.Obj) string {
	values := ""
	for _, value := range o.Values {
		values += value + "\x0a"
	}
	return fmt.Sprintf("obj %s %d %d\x0a%s%s", o.Path, o.T, len(o.Values), values, respTextByHand(o.Resp))
}

func objByHand(s string) (impl.Obj, bool) {
	first := objectFirst.FindStringSubmatch(s)
	if first == nil {
		return impl.Obj{}, false
	}
	o, rest := impl.Obj{Path: first[1]}, s[len(first[0]):]
	o.T, _ = strconv.Atoi(first[2])
	count, _ := strconv.Atoi(first[3])
	for range count {
		end := strings.IndexByte(rest, 10)
		if end < 0 {
			return impl.Obj{}, false
		}
		o.Values, rest = append(o.Values, rest[:end]), rest[end+1:]
	}
	o.Resp, _ = respByHand(rest)
	o.Names = varyByHand(o.Resp.Fields)
	if !objOkByHand(o) {
		return impl.Obj{}, false
	}
	return o, true
}

func checkObjOk(t *testing.T, o impl.Obj, want bool) {
	t.Helper()
	if got := impl.ObjOk(o); got != want {
		t.Fatalf("ObjOk(%#v) = %v", o, got)
	}
	text := ""
	if want {
		text = objTextByHand(o)
	}
	if got := impl.ObjText(o); got != text {
		t.Fatalf("ObjText(%#v) = %#v, not %#v", o, got, text)
	}
}

func checkObjOf(t *testing.T, q impl.Req, r impl.Resp, at int, want impl.Obj, wantOk bool) {
	t.Helper()
	if got, ok := impl.ObjOf(q, r, at); !sameObj(got, want) || ok != wantOk {
		t.Fatalf("ObjOf(%#v, %#v, %d) = %#v, %v, not %#v, %v", q, r, at, got, ok, want, wantOk)
	}
}

func checkNotKept(t *testing.T, q impl.Req, r impl.Resp, at int) {
	t.Helper()
	checkObjOf(t, q, r, at, impl.Obj{}, false)
}

// checkObjRead holds ObjRead to what was read by hand, and to its own text.
func checkObjRead(t *testing.T, s string) {
	t.Helper()
	want, wantOk := objByHand(s)
	got, ok := impl.ObjRead(s)
	if !sameObj(got, want) || ok != wantOk {
		t.Fatalf("ObjRead(%#v) = %#v, %v, not %#v, %v", s, got, ok, want, wantOk)
	}
	if ok && (impl.ObjText(got) != s || !impl.ObjOk(got)) {
		t.Fatalf("ObjRead(%#v) = %#v, whose text is %#v", s, got, impl.ObjText(got))
	}
}

// checkNoObj is for texts that are no object's, told without any reader.
func checkNoObj(t *testing.T, s string) {
	t.Helper()
	if o, ok := impl.ObjRead(s); ok || !sameObj(o, impl.Obj{}) {
		t.Fatalf("ObjRead(%#v) = %#v, %v", s, o, ok)
	}
}

// objValues has values that are easily taken for something else of a text.
func objValues() []string {
	return []string{
		"de", "-", "*", "0", "1", "~", "!", "a b", "a  b", "a,b", "De", "HTTP/1.1 200 .", "HTTP/1.1", "content-length: 0", "content-length: 1", "vary: a", "obj /a 7 1", "obj", "/a", "7 1",
		strings.Repeat("x", impl.MaxText), "x" + strings.Repeat(" ", impl.MaxText-2) + "x",
	}
}

// objBodies has bodies that are objects' texts themselves, whole or cut.
func objBodies() []string {
	inner := "obj /a 7 1\nde\nHTTP/1.1 200 .\r\nvary: lang\r\ncontent-length: 1\r\n\r\nb"
	return append(rightBodies(), inner, inner+"\n", inner[:20], "\n"+inner, "obj /a 0 0\nHTTP/1.1 100 .\r\ncontent-length: 0\r\n\r\n", "de\n", "1\nde\n", "\nde\nde\n", "b\nHTTP/1.1 200 .\r\ncontent-length: 0\r\n\r\n")
}

func rightObjs() []impl.Obj {
	values, times := objValues(), []int{0, 1, 9, 10, 4711, 999999, impl.MaxTime}
	var all []impl.Obj
	for i, body := range objBodies() {
		for j, path := range rightPaths() {
			for k, vary := range []string{"", "lang", "LANG", "kind, Lang", "a,a", "a,b,c", " ,", ",d,,C, b ,a,", "0,-,a-0," + strings.Repeat("z", 20)} {
				o := keeps(strings.Trim(vary, " "))
				for n := range o.Names {
					o.Values = append(o.Values, values[(i+3*j+5*k+7*n)%len(values)])
				}
				o.Path, o.T, o.Resp.Body, o.Resp.Status = path, times[(i+j+k)%len(times)], body, 100+(37*i+11*j+k)%500
				all = append(all, o)
			}
		}
	}
	return all
}

// someObjs are right objects of all kinds, few enough to turn the text of each
// at every place.
func someObjs() []impl.Obj {
	long, bare := keeps("a,b,c,d", slices.Repeat([]string{strings.Repeat("x", impl.MaxText)}, 4)...), keeps("")
	long.Path, long.T, long.Resp.Body = "/"+strings.Repeat("a", impl.MaxText-1), impl.MaxTime, bytesFrom(0, impl.MaxBody)
	bare.Path, bare.T, bare.Resp = "/", 0, impl.Resp{Status: 100}
	nested := keeps("lang", "de")
	nested.Resp.Body = "obj /a 7 1\nde\nHTTP/1.1 200 .\r\nvary: lang\r\ncontent-length: 1\r\n\r\nb"
	return []impl.Obj{
		long, bare, nested, keeps(""), keeps("lang", "de"), keeps("lang", "-"), keeps("Lang, kind", "HTTP/1.1 200 .", "0"), keeps("a,b", "content-length: 0", "obj /a 7 2"),
		keeps("a,a,a", "1", "2", "1"), keeps("a,b,c,d", "1", "-", "*", "a b"),
	}
}

func TestObjOk(t *testing.T) {
	for _, o := range rightObjs() {
		checkObjOk(t, o, true)
	}
	for _, o := range someObjs() {
		checkObjOk(t, o, true)
	}
	checkObjOk(t, impl.Obj{}, false)
	checkObjOk(t, impl.Obj{Path: "/"}, false)
	checkObjOk(t, impl.Obj{Path: "/", Resp: impl.Resp{Status: 100}}, true)
	checkObjOk(t, impl.Obj{Path: "/", Names: []string{}, Values: []string{}, Resp: impl.Resp{Status: 599, Fields: []impl.Field{}}}, true)
	checkObjOk(t, impl.Obj{Resp: impl.Resp{Status: 100}}, false)
}

func TestObjOkAnswer(t *testing.T) {
	for _, r := range wrongResps() {
		checkObjOk(t, impl.Obj{Path: "/a", Names: varyByHand(r.Fields), Values: valuesByHand(varyByHand(r.Fields), nil), Resp: r}, false)
	}
	for _, r := range rightResps() {
		checkObjOk(t, impl.Obj{Path: "/a", Resp: r}, true)
	}
	for n := range 3 * impl.MaxBody {
		o := keeps("lang", "de")
		o.Resp.Body = strings.Repeat("x", n)
		checkObjOk(t, o, n <= 120)
	}
	for n := range 12 {
		o := keeps("lang", "de")
		o.Resp.Fields = append(o.Resp.Fields, manyFields(n)...)
		checkObjOk(t, o, n <= 6)
	}
	for _, list := range [][]impl.Field{fieldsOf("vary", "lang", "vary", "lang"), fieldsOf("vary", "lang", "content-length", "1"), fieldsOf("vary", "lang "), fieldsOf("vary", "lang", "a", ""), fieldsOf("vary", "lang", "A", "1")} {
		o := keeps("lang", "de")
		o.Resp.Fields = list
		checkObjOk(t, o, false)
	}
	// Whether it may be kept is not asked for.
	for _, r := range []impl.Resp{tells(), tells("cache-control", "no-store"), tells("cache-control", "private, max-age=5"), {Status: 404}, {Status: 304, Fields: fieldsOf("a", "1")}} {
		checkObjOk(t, impl.Obj{Path: "/a", Resp: r, T: 7}, true)
	}
}

func TestObjOkStatus(t *testing.T) {
	for _, status := range []int{math.MinInt, -200, -1, 0, 99, 100, 101, 200, 304, 404, 598, 599, 600, 1000, 1<<16 + 200, 1<<32 + 200, math.MaxInt} {
		o := keeps("lang", "de")
		o.Resp.Status = status
		checkObjOk(t, o, 100 <= status && status <= 599)
	}
}

func TestObjOkPath(t *testing.T) {
	with := func(path string) impl.Obj {
		o := keeps("lang", "de")
		o.Path = path
		return o
	}
	checkObjOk(t, with(""), false)
	for _, path := range rightPaths() {
		checkObjOk(t, with(path), true)
	}
	for n := 1; n <= 3*impl.MaxText; n++ {
		checkObjOk(t, with("/"+strings.Repeat("a", n-1)), n <= 60)
		checkObjOk(t, with(strings.Repeat("a", n)), false)
	}
	for _, b := range singleBytes() {
		checkObjOk(t, with(b), b == "/")
		checkObjOk(t, with(b+"/"), b == "/")
		right := 33 <= b[0] && b[0] <= 126
		for _, path := range []string{"/" + b, "/" + b + "a", "/a" + b, "/" + strings.Repeat("a", impl.MaxText-2) + b} {
			checkObjOk(t, with(path), right)
		}
	}
	for _, s := range oddTexts() {
		checkObjOk(t, with(s), pathForm.MatchString(s))
		checkObjOk(t, with("/"+s), pathForm.MatchString("/"+s))
	}
}

// turnedNames tells names that differ from these: one more, one less, another
// order, other letters.
func turnedNames(names []string) [][]string {
	all := turnedValues(names)
	for i := range names {
		for j := range i {
			turned := slices.Clone(names)
			turned[i], turned[j] = turned[j], turned[i]
			all = append(all, turned)
		}
	}
	return append(all, []string{strings.Join(names, ",")}, append(slices.Clone(names), names...))
}

func TestObjOkNames(t *testing.T) {
	for _, vary := range []string{"", "lang", "lang,kind", "a,b,c", "a,b,c,d", "a,a", "a,b,a", "A,b,C,d", "Lang", ",", ",a,,b"} {
		right := keeps(vary)
		right.Values = slices.Repeat([]string{"x"}, len(right.Names))
		checkObjOk(t, right, true)
		for _, names := range turnedNames(right.Names) {
			for _, values := range [][]string{right.Values, slices.Repeat([]string{"x"}, len(names))} {
				o := right
				o.Names, o.Values = names, values
				checkObjOk(t, o, slices.Equal(names, right.Names) && len(values) == len(names))
			}
		}
	}
	for _, names := range [][]string{{"Lang"}, {"LANG", "Kind"}, {"Lang, Kind"}, {" lang", "kind"}, {"kind", "lang"}, {"lang"}, {"lang", "kind", "kind"}} {
		o := keeps("Lang, Kind", "de", "x")
		o.Names = names
		checkObjOk(t, o, false)
	}
	// Names of a list that has no vary at all.
	o := keeps("lang", "de")
	o.Resp.Fields = fieldsOf("Vary", "lang", "a", "1")
	checkObjOk(t, o, false)
}

func TestObjOkVary(t *testing.T) {
	long, longer := strings.Repeat("a", 20), strings.Repeat("a", 21)
	for vary, want := range map[string]bool{
		"": true, ",": true, ", ,": true, ",,,,,,": true, "lang": true, "a,b": true, "a,b,c": true, "a,b,c,d": true, ",a,,b, ,c,d,": true, "a,b,c,d,e": false, "a, b, c, d, e": false, "a,b,c,d,e,f": false, "a,a,a,a": true, "a,a,a,a,a": false,
		"*": false, "**": false, "*,a": false, "a,*": false, "a, * ,b": false, "a,b,c,*": false, "a,b,c,d,*": false, "*a": false, "-": true, "0": true,
		"Lang": true, "A,B,C,D": true, "A,B,C,D,E": false, long: true, longer: false, strings.ToUpper(long): true, strings.ToUpper(longer): false, "a,b,c," + long: true, "a,b,c," + longer: false,
		"a b": false, "a_b": false, "a:b": false, "a=b": false, "a,b c": false, "a;q=1,b": false, "a,/": false, "vary": true, "content-length": true, "-,-": true,
	} {
		o := keeps(vary)
		o.Values = slices.Repeat([]string{"x"}, len(o.Names))
		checkObjOk(t, o, want)
		// With no name that is wrong, and no more than may be, it is another answer's.
		if !want {
			o.Names, o.Values = nil, nil
			checkObjOk(t, o, false)
		}
	}
}

func TestObjOkOfAllVaryValues(t *testing.T) {
	for _, vary := range append(textsOf([]string{"a", "B", ",", " ", "*"}, 5), textsOf([]string{"a,", "_,", "C", ",,"}, 5)...) {
		o := keeps("lang", "de")
		o.Resp.Fields[1].Value = vary
		o.Names = varyByHand(o.Resp.Fields)
		o.Values = slices.Repeat([]string{"x"}, len(o.Names))
		checkObjOk(t, o, objOkByHand(o))
	}
}

func TestObjOkHowManyValues(t *testing.T) {
	for names, vary := range []string{"", "a", "a,b", "a,b,c", "a,b,c,d"} {
		for n := range 9 {
			checkObjOk(t, keeps(vary, slices.Repeat([]string{"x"}, n)...), n == names)
		}
		checkObjOk(t, keeps(vary, slices.Repeat([]string{"x"}, 3000)...), false)
	}
	checkObjOk(t, keeps("", ""), false)
	checkObjOk(t, keeps("", "-"), false)
}

func TestObjOkValues(t *testing.T) {
	for _, value := range objValues() {
		checkObjOk(t, keeps("lang", value), true)
	}
	for n := range 3 * impl.MaxText {
		value := strings.Repeat("x", n)
		for at := range 4 {
			values := []string{"1", "2", "3", "4"}
			values[at] = value
			checkObjOk(t, keeps("a,b,c,d", values...), 1 <= n && n <= 60)
		}
	}
	for _, value := range []string{"", " ", "  ", " x", "x ", " x ", strings.Repeat(" ", 60), "x\n", "\nx", "a\nb", "a\r\nb", "x\r", "\tx", "x\x7f", "\x1f", "\u00e4", "\xff", "\x00"} {
		checkObjOk(t, keeps("lang", value), false)
		checkObjOk(t, keeps("a,b", "x", value), false)
		checkObjOk(t, keeps("a,b", value, "x"), false)
	}
	for _, s := range oddTexts() {
		checkObjOk(t, keeps("lang", s), valueForm.MatchString(s))
		checkObjOk(t, keeps("a,b,c", "x", "y"+s+"z", "x"), valueForm.MatchString("y"+s+"z"))
	}
}

func objTimes() []int {
	return []int{math.MinInt, math.MinInt + 7, -1<<32 + 7, -1000000, -2, -1, 0, 1, 7, 999999, 1000000, 1000001, 1000002, 1<<32 + 7, math.MaxInt - 7, math.MaxInt}
}

func TestObjOkTime(t *testing.T) {
	for _, at := range objTimes() {
		for _, o := range []impl.Obj{keeps(""), keeps("lang", "de"), keeps("a,b,c,d", "1", "2", "3", "4")} {
			o.T = at
			checkObjOk(t, o, 0 <= at && at <= impl.MaxTime)
		}
	}
}

func TestObjOkOfAnyNames(t *testing.T) {
	for _, s := range oddTexts() {
		for _, list := range [][]impl.Field{fieldsOf("vary", s), fieldsOf("vary", "Lang,"+s), fieldsOf(s, "a", "vary", "b"), fieldsOf("vary", "b", "a", s)} {
			names := varyByHand(list)
			o := impl.Obj{Path: "/a", Names: names, Values: slices.Repeat([]string{"x"}, len(names)), Resp: impl.Resp{Status: 200, Fields: list}}
			checkObjOk(t, o, objOkByHand(o))
		}
		o := keeps("lang", "de")
		o.Names = []string{s}
		checkObjOk(t, o, false)
	}
}

func TestObjOf(t *testing.T) {
	life := []string{"cache-control", "max-age=5"}
	for _, c := range []struct {
		asked         []impl.Field
		vary          string
		names, values []string
	}{
		{nil, "", nil, nil}, {fieldsOf("lang", "de"), "", nil, nil}, {fieldsOf("lang", "de"), ",", nil, nil}, {fieldsOf("lang", "de"), "lang", []string{"lang"}, []string{"de"}}, {fieldsOf("lang", "de"), "LANG", []string{"lang"}, []string{"de"}},
		{nil, "lang", []string{"lang"}, []string{"-"}}, {fieldsOf("kind", "x"), "lang", []string{"lang"}, []string{"-"}}, {fieldsOf("kind", "x"), "lang,kind", []string{"lang", "kind"}, []string{"-", "x"}}, {fieldsOf("kind", "x", "lang", "de"), "Lang, Kind", []string{"lang", "kind"}, []string{"de", "x"}}, {fieldsOf("lang", "-"), "lang", []string{"lang"}, []string{"-"}},
		{fieldsOf("a", "1", "b", "2"), "b,a,b,a", []string{"b", "a", "b", "a"}, []string{"2", "1", "2", "1"}}, {fieldsOf("a", "1"), "a,b,c,d", []string{"a", "b", "c", "d"}, []string{"1", "-", "-", "-"}}, {nil, "a,b,c,d", []string{"a", "b", "c", "d"}, []string{"-", "-", "-", "-"}},
		{fieldsOf("lang", "HTTP/1.1 200 ."), "lang", []string{"lang"}, []string{"HTTP/1.1 200 ."}}, {fieldsOf("lang", strings.Repeat("~", 60)), "lang", []string{"lang"}, []string{strings.Repeat("~", 60)}}, {fieldsOf("vary", "x"), "vary", []string{"vary"}, []string{"x"}}, {fieldsOf("vary", "*"), "lang", []string{"lang"}, []string{"-"}},
		{fieldsOf("lang", "*"), "lang", []string{"lang"}, []string{"*"}}, {fieldsOf("cache-control", "no-cache"), "cache-control", []string{"cache-control"}, []string{"no-cache"}}, {manyFields(8), "n7,n8", []string{"n7", "n8"}, []string{"v7", "-"}}, {nil, "content-length", []string{"content-length"}, []string{"-"}},
	} {
		fields := fieldsOf(life...)
		if c.vary != "" {
			fields = append(fieldsOf("vary", c.vary), fields...)
		}
		for _, at := range []int{0, 1, 7, 999999, impl.MaxTime} {
			for _, body := range []string{"", "b", "obj /a 7 0\n", strings.Repeat("\xff", 120)} {
				for _, path := range []string{"/", "/a", "/" + strings.Repeat("a", 59)} {
					r := impl.Resp{Status: 200, Fields: fields, Body: body}
					want := impl.Obj{Path: path, Names: c.names, Values: c.values, Resp: r, T: at}
					checkObjOf(t, impl.Req{Method: impl.MtGet, Path: path, Fields: c.asked, Body: "asked"}, r, at, want, true)
				}
			}
		}
	}
}

func TestObjOfWhatMayNotBeKept(t *testing.T) {
	q, r := asks("lang", "de"), tells("cache-control", "max-age=5", "vary", "lang")
	for _, at := range []int{0, 7, impl.MaxTime} {
		checkObjOf(t, q, r, at, impl.Obj{Path: "/a", Names: []string{"lang"}, Values: []string{"de"}, Resp: r, T: at}, true)
		for _, other := range wrongReqs() {
			checkNotKept(t, other, r, at)
		}
		for _, method := range []int{impl.MtHead, impl.MtPost, impl.MtPurge} {
			checkNotKept(t, impl.Req{Method: method, Path: "/a", Fields: q.Fields}, r, at)
		}
		checkNotKept(t, asks("cache-control", "no-store"), r, at)
		checkNotKept(t, asks("lang", "de", "cache-control", "x, No-Store"), r, at)
		for _, other := range wrongResps() {
			checkNotKept(t, q, other, at)
			other.Fields = append(fieldsOf("cache-control", "max-age=5"), other.Fields...)
			checkNotKept(t, q, other, at)
		}
		for _, status := range []int{100, 199, 201, 206, 304, 404, 503, 599} {
			checkNotKept(t, q, impl.Resp{Status: status, Fields: r.Fields, Body: "b"}, at)
		}
		for _, control := range []string{"no-store, max-age=5", "max-age=5,No-Store", "private, max-age=5", "max-age=5, PRIVATE", "no-cache", "max-age", "x"} {
			checkNotKept(t, q, tells("cache-control", control, "vary", "lang"), at)
		}
		checkNotKept(t, q, tells("vary", "lang"), at)
		checkNotKept(t, q, tells(), at)
		for _, vary := range []string{"*", "lang,*", "*, lang", "a,b,c,d,e", "a b", "a_b", "lang,a_b", strings.Repeat("a", 21)} {
			checkNotKept(t, q, tells("cache-control", "max-age=5", "vary", vary), at)
		}
	}
}

// A request with a value that can't be kept is not right itself, whether the
// answer hangs on that field or not.
func TestObjOfWrongValues(t *testing.T) {
	for _, value := range []string{"", " ", " de", "de ", strings.Repeat("x", 61), "\n", "d\ne", "\xff", "\u00e4"} {
		for _, vary := range []string{"lang", "kind", "kind,lang"} {
			checkNotKept(t, asks("lang", value), tells("cache-control", "max-age=5", "vary", vary), 7)
			checkNotKept(t, asks("kind", "x", "lang", value), tells("cache-control", "max-age=5", "vary", vary), 7)
		}
		checkNotKept(t, asks("lang", "de"), tells("cache-control", "max-age=5", "vary", "lang", "a", value), 7)
	}
	checkNotKept(t, asks("lang", "de", "lang", "en"), tells("cache-control", "max-age=5", "vary", "lang"), 7)
	checkNotKept(t, asks("Lang", "de"), tells("cache-control", "max-age=5", "vary", "Lang"), 7)
	checkNotKept(t, asks("content-length", "1"), tells("cache-control", "max-age=5", "vary", "content-length"), 7)
}

func TestObjOfTimes(t *testing.T) {
	q, r := asks("lang", "de"), tells("cache-control", "max-age=0", "vary", "lang")
	for _, at := range objTimes() {
		if 0 <= at && at <= impl.MaxTime {
			checkObjOf(t, q, r, at, impl.Obj{Path: "/a", Names: []string{"lang"}, Values: []string{"de"}, Resp: r, T: at}, true)
		} else {
			checkNotKept(t, q, r, at)
		}
		checkNotKept(t, q, tells("cache-control", "no-store", "vary", "lang"), at)
	}
}

func TestObjOfAllMessages(t *testing.T) {
	for i, q := range keepingReqs() {
		for j, r := range keepingResps() {
			at := []int{-1, 0, 7, impl.MaxTime, impl.MaxTime + 1}[(i+j)%5]
			want, wantOk := objOfByHand(q, r, at)
			checkObjOf(t, q, r, at, want, wantOk)
		}
	}
}

func TestObjOfAnyBytes(t *testing.T) {
	for _, s := range oddTexts() {
		for _, q := range []impl.Req{asks("a", s), asks(s, "a"), {Method: impl.MtGet, Path: "/" + s}, {Method: impl.MtGet, Path: "/", Body: s}} {
			for _, r := range []impl.Resp{tells("cache-control", "max-age=5", "vary", "a"), tells("cache-control", "max-age=5", "vary", "a,"+s), {Status: 200, Fields: fieldsOf("cache-control", "max-age=5", "vary", s), Body: s}} {
				want, wantOk := objOfByHand(q, r, len(s))
				checkObjOf(t, q, r, len(s), want, wantOk)
			}
		}
	}
}

func TestObjText(t *testing.T) {
	empty, full := keeps("lang", "de"), keeps("")
	empty.Resp.Body = ""
	full.Resp.Body, full.T = strings.Repeat("x", 120), 0
	wide := impl.Obj{Path: "/x?y=1", Names: []string{"d", "c", "b", "a"}, Values: []string{"4", "-", "a b", "1"}, Resp: impl.Resp{Status: 404, Fields: fieldsOf("vary", "D,c, b,A")}, T: 1000000}
	for _, c := range []struct {
		o    impl.Obj
		want string
	}{
		{keeps(""), "obj /a 7 0\nHTTP/1.1 200 .\r\ncache-control: max-age=5\r\ncontent-length: 1\r\n\r\nb"},
		{keeps("lang", "de"), "obj /a 7 1\nde\nHTTP/1.1 200 .\r\ncache-control: max-age=5\r\nvary: lang\r\ncontent-length: 1\r\n\r\nb"},
		{empty, "obj /a 7 1\nde\nHTTP/1.1 200 .\r\ncache-control: max-age=5\r\nvary: lang\r\ncontent-length: 0\r\n\r\n"},
		{full, "obj /a 0 0\nHTTP/1.1 200 .\r\ncache-control: max-age=5\r\ncontent-length: 120\r\n\r\n" + strings.Repeat("x", 120)},
		{wide, "obj /x?y=1 1000000 4\n4\n-\na b\n1\nHTTP/1.1 404 .\r\nvary: D,c, b,A\r\ncontent-length: 0\r\n\r\n"},
		{impl.Obj{Path: "/", Resp: impl.Resp{Status: 100}}, "obj / 0 0\nHTTP/1.1 100 .\r\ncontent-length: 0\r\n\r\n"},
		{impl.Obj{}, ""}, {keeps("lang"), ""}, {keeps("", "de"), ""}, {keeps("*", "de"), ""}, {keeps("lang", ""), ""},
	} {
		if got := impl.ObjText(c.o); got != c.want {
			t.Errorf("ObjText(%#v) = %#v, not %#v", c.o, got, c.want)
		}
	}
}

func TestObjRead(t *testing.T) {
	got, ok := impl.ObjRead("obj /x?y=1 4711 2\nHTTP/1.1 200 .\nobj /a 7 1\nHTTP/1.1 203 .\r\nvary: Lang , KIND\r\na: 1\r\ncontent-length: 16\r\n\r\nobj /a 7 1\nde\n\r\n")
	want := impl.Obj{
		Path: "/x?y=1", Names: []string{"lang", "kind"}, Values: []string{"HTTP/1.1 200 .", "obj /a 7 1"}, T: 4711,
		Resp: impl.Resp{Status: 203, Fields: fieldsOf("vary", "Lang , KIND", "a", "1"), Body: "obj /a 7 1\nde\n\r\n"},
	}
	if !ok || !sameObj(got, want) {
		t.Errorf("ObjRead = %#v, %v", got, ok)
	}
	got, ok = impl.ObjRead("obj / 0 0\nHTTP/1.1 100 .\r\ncontent-length: 0\r\n\r\n")
	if !ok || !sameObj(got, impl.Obj{Path: "/", Resp: impl.Resp{Status: 100}}) {
		t.Errorf("ObjRead = %#v, %v", got, ok)
	}
}

func TestObjTextsCutShortOrLonger(t *testing.T) {
	checkNoObj(t, "")
	for _, o := range someObjs() {
		s := objTextByHand(o)
		checkObjRead(t, s)
		for cut := range len(s) {
			checkNoObj(t, s[:cut])
			// A body may be an object's text itself.
			checkObjRead(t, s[cut:])
		}
		for _, b := range singleBytes() {
			checkNoObj(t, s+b)
			checkNoObj(t, b+s)
		}
		for _, more := range []string{s, "\r\n", "\n", " ", "de\n", objTextByHand(keeps(""))} {
			checkNoObj(t, s+more)
			checkNoObj(t, more+s)
		}
		checkNoObj(t, respTextByHand(o.Resp))
		checkNoObj(t, "\n"+respTextByHand(o.Resp))
		checkNoObj(t, reqTextByHand(impl.Req{Method: impl.MtGet, Path: o.Path, Body: o.Resp.Body}))
	}
	for _, s := range someTexts() {
		checkNoObj(t, s)
	}
}

func TestObjLineEndsMissingOrDoubled(t *testing.T) {
	for _, o := range someObjs() {
		s := objTextByHand(o)
		head := len(s) - len(respTextByHand(o.Resp))
		for at := range head {
			if s[at] != '\n' {
				continue
			}
			for _, other := range []string{"", " ", "\r", "\r\n", "\n\r", "\n\n", " \n", "\n ", "\n\n\n", "\x00", "\x0b", ",", "\u0085"} {
				checkNoObj(t, s[:at]+other+s[at+1:])
			}
		}
		for at := head; at+1 < len(s)-len(o.Resp.Body); at++ {
			if s[at:at+2] != "\r\n" {
				continue
			}
			for _, other := range []string{"\r", "\n", "\n\r", "\r\r\n", "\r\n\n", "\r\n\r\n", " \r\n", "\r\n "} {
				checkNoObj(t, s[:at]+other+s[at+2:])
			}
			// Two lines of fields in one are one field.
			checkObjRead(t, s[:at]+s[at+2:])
		}
	}
}

func TestObjTextsTurnedAtEachPlace(t *testing.T) {
	letters := []string{"\r", "\n", " ", ":", "/", ",", "*", "0", "1", "4", "9", "a", "A", "-", "~", "\x7f", "\x00", "\xff"}
	for _, o := range someObjs() {
		s := objTextByHand(o)
		for at := range len(s) {
			checkObjRead(t, s[:at]+s[at+1:])
			checkObjRead(t, s[:at]+s[at:at+1]+s[at:])
			for _, letter := range letters {
				checkObjRead(t, s[:at]+letter+s[at:])
				checkObjRead(t, s[:at]+letter+s[at+1:])
			}
		}
	}
	for _, o := range []impl.Obj{keeps(""), keeps("a,b", "1", "HTTP/1.1 200 .")} {
		s := objTextByHand(o)
		for at := range len(s) {
			for _, b := range singleBytes() {
				checkObjRead(t, s[:at]+b+s[at+1:])
			}
		}
	}
}

func TestObjReadHowManyValues(t *testing.T) {
	for _, o := range someObjs() {
		s := objTextByHand(o)
		first := fmt.Sprintf("obj %s %d ", o.Path, o.T)
		n := len(o.Values)
		rest := strings.TrimPrefix(s, first+strconv.Itoa(n))
		for _, count := range lengthForms(n) {
			checkNoObj(t, first+count+rest)
		}
		checkNoObj(t, strings.TrimSuffix(first, " ")+strconv.Itoa(n)+rest)
		for count := range 20 {
			if count != n {
				checkNoObj(t, first+strconv.Itoa(count)+rest)
			}
		}
		for _, count := range []string{"1000000", "1000001", "4294967296", "9223372036854775807", "9223372036854775808", strings.Repeat("9", 400), strings.Repeat("0", 400), "-0", "one", "4,"} {
			checkNoObj(t, first+count+rest)
		}
	}
}

// Here as many values stand as are told, but the answer hangs on more or fewer.
func TestObjReadOtherValuesThanNames(t *testing.T) {
	for names, vary := range []string{"", "a", "a,b", "a,b,c", "a,b,c,d", "a,b,c,d,e", "a,b,c,d,e,f"} {
		for n := range 12 {
			o := keeps(vary, slices.Repeat([]string{"x"}, n)...)
			if n != names || n > 4 {
				checkNoObj(t, objTextByHand(o))
			}
			checkObjRead(t, objTextByHand(o))
		}
		checkNoObj(t, objTextByHand(keeps(vary, slices.Repeat([]string{"x"}, 2000)...)))
	}
	for _, vary := range []string{"*", "a,*", "a b", "a_b", "a,b_", strings.Repeat("a", 21)} {
		o := keeps(vary)
		o.Values = slices.Repeat([]string{"x"}, len(o.Names))
		checkNoObj(t, objTextByHand(o))
		checkNoObj(t, objTextByHand(keeps(vary)))
	}
}

func TestObjReadTimes(t *testing.T) {
	for _, o := range someObjs() {
		s := objTextByHand(o)
		first := "obj " + o.Path + " "
		rest := strings.TrimPrefix(s, first+strconv.Itoa(o.T))
		for _, at := range append(lengthForms(o.T), "1000000", "999999", "0", "7") {
			checkObjRead(t, first+at+rest)
		}
		for _, at := range []string{"", " ", "00", "07", "007", "01000000", "+7", "-7", "-0", " 7", "7 ", "7.", "7x", "x", "0x7", "7\n", "1000001", "1000002", "10000000", "4294967303", "18446744073709551623", strings.Repeat("0", 400) + "7", strings.Repeat("7", 400), "\uff17", "\xff"} {
			checkNoObj(t, first+at+rest)
		}
		for _, at := range objTimes() {
			o.T = at
			checkObjRead(t, objTextByHand(o))
			if at < 0 || at > impl.MaxTime {
				checkNoObj(t, objTextByHand(o))
			}
		}
	}
}

func TestObjReadPaths(t *testing.T) {
	for _, path := range append(rightPaths(), "", "a", "a/", " /", "/ ", "/ a", "/a b", "/a 7 1", "/\n", "/\r\n", "/\x1f", "/\x7f", "/\xff", "/\u00e4", "/"+strings.Repeat("a", 60), "/"+strings.Repeat("a", 5000)) {
		for _, o := range []impl.Obj{keeps(""), keeps("lang", "de")} {
			o.Path = path
			if !pathForm.MatchString(path) {
				checkNoObj(t, objTextByHand(o))
			}
			checkObjRead(t, objTextByHand(o))
		}
	}
	rest := strings.TrimPrefix(objTextByHand(keeps("lang", "de")), "obj /a 7 1\n")
	for _, first := range []string{
		"", "obj", "obj ", "obj /a", "obj /a ", "obj /a 7", "obj /a 7 ", "obj  7 1", "obj /a  1", "obj 7 1", "/a 7 1", " /a 7 1", "bj /a 7 1", "Obj /a 7 1", "OBJ /a 7 1", " obj /a 7 1", "obj  /a 7 1", "obj /a  7 1", "obj /a 7  1", "obj /a 7 1 ", "obj/a 7 1",
		"obj\t/a 7 1", "obj\n/a 7 1", "object /a 7 1", "obj obj /a 7 1", "obj /a 1 7", "obj 7 /a 1", "obj 1 7 /a", "ban /a 7 1", "\nobj /a 7 1", "obj /a 7 1\r", "obj /a\n7 1", "obj /a 7\n1", "obj /a 7 1 1", "obj /a 7 7 1",
	} {
		checkNoObj(t, first+"\n"+rest)
		checkNoObj(t, first+rest)
		checkNoObj(t, first)
	}
}

func TestObjReadValues(t *testing.T) {
	for _, value := range append(objValues(), "", " ", " x", "x ", "x\r", "\rx", "a\nb", "\n", "\t", "\x7f", "\xff", "\u00e4", strings.Repeat("x", 61), "HTTP/1.1 200 .\r", "HTTP/1.1 200 .\r\ncontent-length: 0\r\n\r") {
		for _, o := range []impl.Obj{keeps("lang", value), keeps("a,b", value, "x"), keeps("a,b", "x", value), keeps("a,b,c,d", value, value, value, value)} {
			if !valueForm.MatchString(value) {
				checkNoObj(t, objTextByHand(o))
			}
			checkObjRead(t, objTextByHand(o))
			// The value stands there once, but is told of by no count.
			checkNoObj(t, strings.Replace(objTextByHand(o), fmt.Sprintf(" %d\n", len(o.Values)), " 0\n", 1))
		}
	}
}

func TestObjReadWrongAnswers(t *testing.T) {
	for _, r := range wrongResps() {
		names := varyByHand(r.Fields)
		checkNoObj(t, objTextByHand(impl.Obj{Path: "/a", Names: names, Values: valuesByHand(names, nil), Resp: r}))
	}
	head := "obj /a 7 1\nde\n"
	for _, rest := range []string{
		"", "\n", "\r\n", "HTTP/1.1 200 .", "HTTP/1.1 200 .\r\n", "HTTP/1.1 200 .\r\nvary: lang\r\n\r\n", "HTTP/1.1 200 .\r\nvary: lang\r\ncontent-length: 0\r\n", "HTTP/1.1 200 .\r\nvary: lang\r\ncontent-length: 00\r\n\r\n", "HTTP/1.1 200 .\r\nvary: lang\r\ncontent-length: 1\r\n\r\n",
		"HTTP/1.1 200 .\r\ncontent-length: 0\r\nvary: lang\r\n\r\n", "HTTP/1.1 200 .\r\nVary: lang\r\ncontent-length: 0\r\n\r\n", "HTTP/1.1 200 OK\r\nvary: lang\r\ncontent-length: 0\r\n\r\n", "HTTP/1.1 600 .\r\nvary: lang\r\ncontent-length: 0\r\n\r\n", "HTTP/1.1 0200 .\r\nvary: lang\r\ncontent-length: 0\r\n\r\n", "HTTP/1.1 200 .\r\nvary: lang\r\nvary: lang\r\ncontent-length: 0\r\n\r\n",
		"GET /a HTTP/1.1\r\nvary: lang\r\n\r\n", "obj /a 7 1\nde\nHTTP/1.1 200 .\r\nvary: lang\r\ncontent-length: 0\r\n\r\n", " HTTP/1.1 200 .\r\nvary: lang\r\ncontent-length: 0\r\n\r\n", "HTTP/1.1 200 .\r\nvary: lang\r\ncontent-length: 121\r\n\r\n" + strings.Repeat("x", 121),
	} {
		checkNoObj(t, head+rest)
	}
	checkObjRead(t, head+"HTTP/1.1 200 .\r\nvary: lang\r\ncontent-length: 0\r\n\r\n")
}

func TestObjReadOfAllOrdersOfRows(t *testing.T) {
	tail := "HTTP/1.1 200 .\r\nvary: a,b\r\ncontent-length: 0\r\n\r\n"
	for _, rows := range textsOf([]string{"obj /a 7 2\n", "obj /a 7 1\n", "x\n", "HTTP/1.1 200 .\n", "\n", "HTTP/1.1 200 .\r\n", "vary: a\r\n", "content-length: 0\r\n\r\n"}, 4) {
		checkObjRead(t, rows)
		checkObjRead(t, rows+tail)
		checkObjRead(t, "obj /a 7 2\n"+rows+tail)
	}
	for _, first := range textsOf([]string{"obj", "/a", " ", "7", "0", "2", "\n"}, 6) {
		checkObjRead(t, "obj "+first+"x\ny\n"+tail)
		checkObjRead(t, first+"HTTP/1.1 200 .\r\ncontent-length: 0\r\n\r\n")
	}
}

func TestObjReadOfAnyBytes(t *testing.T) {
	for _, s := range oddTexts() {
		checkNoObj(t, s)
		checkNoObj(t, "obj "+s)
		for _, o := range []impl.Obj{keeps("lang", s), keeps("a,b", "x"+s, "y"), keeps("lang,"+s, "de", "x")} {
			checkObjRead(t, objTextByHand(o))
		}
		o := keeps("lang", "de")
		o.Path, o.Resp.Body = "/"+s, s
		checkObjRead(t, objTextByHand(o))
		text := objTextByHand(keeps("lang", "de"))
		checkObjRead(t, strings.Replace(text, " 7 ", " "+s+" ", 1))
		checkObjRead(t, strings.Replace(text, " 1\n", " "+s+"\n", 1))
		checkObjRead(t, strings.Replace(text, "1\nde", "1"+s+"de", 1))
		checkObjRead(t, strings.Replace(text, "obj ", s, 1))
	}
	for _, s := range []string{strings.Repeat("\n", 100000), strings.Repeat("x\n", 100000), strings.Repeat(" ", 100000), strings.Repeat("9", 100000), strings.Repeat("obj /a 7 1\n", 10000), strings.Repeat("\xff", 100000)} {
		for _, head := range []string{"", "obj ", "obj /a ", "obj /a 7 ", "obj /a 7 1", "obj /a 7 1\n", "obj /a 7 1000000\n", "obj /a 7 4\nx\n", "obj /a 7 0\nHTTP/1.1 200 .\r\n"} {
			checkNoObj(t, head+s)
		}
	}
}

// objLists are the lists of an object with the room behind them.
type objLists struct {
	names, values []string
	fields        []impl.Field
}

func roomyObj(o impl.Obj) (impl.Obj, objLists) {
	var whole objLists
	o.Names, whole.names = longTexts(o.Names)
	o.Values, whole.values = longTexts(o.Values)
	o.Resp.Fields, whole.fields = withRoom(o.Resp.Fields)
	return o, whole
}

func (l objLists) copied() objLists {
	return objLists{slices.Clone(l.names), slices.Clone(l.values), slices.Clone(l.fields)}
}

func (l objLists) same(other objLists) bool {
	return slices.Equal(l.names, other.names) && slices.Equal(l.values, other.values) && slices.Equal(l.fields, other.fields)
}

func turnObj(o impl.Obj) {
	turnTexts(o.Names)
	turnTexts(o.Values)
	turnAll(o.Resp.Fields)
}

func wrongObjs() []impl.Obj {
	all := []impl.Obj{{}, keeps("lang"), keeps("", "de"), keeps("*", "de"), keeps("a,b,c,d,e", "1", "2", "3", "4", "5"), keeps("lang", " de "), keeps("Lang,,KIND ", "a", "b")}
	great := keeps("Lang, Kind", "de", "x")
	great.Names = []string{"Lang", "Kind"}
	late := keeps("lang", "de")
	late.T = impl.MaxTime + 1
	return append(all, great, late)
}

func TestObjectsAreNotWrittenInto(t *testing.T) {
	for _, was := range append(someObjs(), wrongObjs()...) {
		o, whole := roomyObj(was)
		before := whole.copied()
		impl.ObjOk(o)
		impl.ObjText(o)
		if !whole.same(before) {
			t.Fatalf("%#v was written into, or its room: %#v", was, whole)
		}
	}
	for _, asked := range [][]impl.Field{nil, fieldsOf("lang", "de"), fieldsOf("kind", "x", "lang", "de"), manyFields(8), fieldsOf("lang", "")} {
		for _, told := range [][]impl.Field{fieldsOf("cache-control", "max-age=5"), fieldsOf("vary", "LANG, n7, Kind", "cache-control", "Max-Age=5"), fieldsOf("cache-control", "no-store"), nil} {
			front, allAsked := withRoom(asked)
			back, allTold := withRoom(told)
			wasAsked, wasTold := slices.Clone(allAsked), slices.Clone(allTold)
			o, _ := impl.ObjOf(impl.Req{Method: impl.MtGet, Path: "/a", Fields: front}, impl.Resp{Status: 200, Fields: back, Body: "b"}, 7)
			turnObj(o)
			if !slices.Equal(allAsked, wasAsked) || !slices.Equal(allTold, wasTold) {
				t.Fatalf("%q or %q was written into, or its room: %q, %q", asked, told, allAsked, allTold)
			}
		}
	}
}

func TestKeptObjectsStay(t *testing.T) {
	for _, asked := range [][]impl.Field{nil, fieldsOf("lang", "de"), fieldsOf("kind", "x", "lang", "de"), manyFields(8)} {
		for _, told := range [][]impl.Field{fieldsOf("cache-control", "max-age=5"), fieldsOf("vary", "lang", "cache-control", "max-age=5"), fieldsOf("vary", "LANG, n7, Kind,x", "cache-control", "max-age=5", "a", "1")} {
			front, allAsked := withRoom(asked)
			back, allTold := withRoom(told)
			q, r := impl.Req{Method: impl.MtGet, Path: "/a", Fields: front}, impl.Resp{Status: 200, Fields: back, Body: "b"}
			o, ok := impl.ObjOf(q, r, 7)
			other, _ := impl.ObjOf(q, r, 7)
			turnObj(other)
			turnAll(allAsked)
			turnAll(allTold)
			impl.ObjOf(q, r, 8)
			want, _ := objOfByHand(impl.Req{Method: impl.MtGet, Path: "/a", Fields: asked}, impl.Resp{Status: 200, Fields: told, Body: "b"}, 7)
			if !ok || !sameObj(o, want) {
				t.Fatalf("what was kept of %q and %q turned: %#v, %v", asked, told, o, ok)
			}
		}
	}
}

func TestReadObjectsStay(t *testing.T) {
	for _, want := range someObjs() {
		text := objTextByHand(want)
		s := strings.Clone(text)
		o, ok := impl.ObjRead(s)
		other, _ := impl.ObjRead(s)
		turnObj(other)
		for _, next := range someObjs() {
			more, _ := impl.ObjRead(objTextByHand(next))
			turnObj(more)
		}
		if !ok || !sameObj(o, want) || s != text {
			t.Fatalf("what was read from %#v turned: %#v, %v", text, o, ok)
		}
		checkObjRead(t, s)
	}
}

// checkOwnLists turns one list of an object, and its room, at a time.
func checkOwnLists(t *testing.T, again func() impl.Obj) {
	t.Helper()
	want := again()
	names, values, fields := again(), again(), again()
	turnTexts(names.Names)
	turnTexts(values.Values)
	turnAll(fields.Resp.Fields)
	names.Names, values.Values, fields.Resp.Fields = want.Names, want.Values, want.Resp.Fields
	if !sameObj(names, want) || !sameObj(values, want) || !sameObj(fields, want) {
		t.Fatalf("lists of %#v share memory: %#v, %#v, %#v", want, names, values, fields)
	}
}

func TestListsOfObjectsShareNothing(t *testing.T) {
	for _, o := range someObjs() {
		s := objTextByHand(o)
		checkOwnLists(t, func() impl.Obj {
			read, _ := impl.ObjRead(s)
			return read
		})
	}
	for _, q := range []impl.Req{asks(), asks("lang", "de"), asks("lang", "de", "kind", "lang")} {
		for _, r := range []impl.Resp{tells("cache-control", "max-age=5"), tells("vary", "lang", "cache-control", "max-age=5"), tells("cache-control", "max-age=5", "vary", "a,lang,KIND,d")} {
			checkOwnLists(t, func() impl.Obj {
				kept, _ := impl.ObjOf(q, r, 7)
				return kept
			})
		}
	}
}

// textsIn tells all texts of an object as fields.
func textsIn(o impl.Obj) []impl.Field {
	all := append(slices.Clone(o.Resp.Fields), fieldsOf(o.Path, o.Resp.Body)...)
	for _, text := range slices.Concat(o.Names, o.Values) {
		all = append(all, impl.Field{Name: text})
	}
	return all
}

func TestObjectTextsAreNewMemory(t *testing.T) {
	for _, o := range someObjs() {
		s := strings.Clone(objTextByHand(o))
		if read, _ := impl.ObjRead(s); sharesAny(textsIn(read), s) {
			t.Errorf("what is read from %q shares memory with it", s)
		}
	}
	for _, value := range []string{"de", "x y", "-"} {
		var arguments []string
		text := func(s string) string {
			arguments = append(arguments, strings.Clone(s))
			return arguments[len(arguments)-1]
		}
		q := impl.Req{Method: impl.MtGet, Path: text("/path"), Fields: fieldsOf(text("lang"), text(value)), Body: text("asked")}
		r := impl.Resp{Status: 200, Fields: fieldsOf(text("vary"), text("lang"), text("cache-control"), text("max-age=5")), Body: text("told")}
		o, ok := impl.ObjOf(q, r, 7)
		if !ok || sharesAny(textsIn(o), arguments...) {
			t.Errorf("the object %#v, %v shares memory with an argument", o, ok)
		}
		o = impl.Obj{Path: text("/path"), Names: []string{text("lang")}, Values: []string{text(value)}, Resp: r}
		if got := impl.ObjText(o); got == "" || sharesAny(fieldsOf(got, ""), arguments...) {
			t.Errorf("the text %q shares memory with an argument", got)
		}
	}
}

func checkReadAsItWas(t *testing.T, o impl.Obj) {
	t.Helper()
	text := impl.ObjText(o)
	if got, ok := impl.ObjRead(text); !ok || !sameObj(got, o) || !impl.ObjOk(o) {
		t.Fatalf("ObjRead(ObjText(%#v)) = ObjRead(%#v) = %#v, %v", o, text, got, ok)
	}
}

func TestPromise10ObjectsAreReadAsTheyWere(t *testing.T) {
	for _, o := range append(rightObjs(), someObjs()...) {
		checkReadAsItWas(t, o)
	}
	for _, values := range textLists(objValues(), 2) {
		checkReadAsItWas(t, keeps([]string{"", "a", "a,b"}[len(values)], values...))
	}
	for _, r := range rightResps() {
		checkReadAsItWas(t, impl.Obj{Path: "/a", Resp: r, T: r.Status})
	}
	for n := range impl.MaxBody + 1 {
		for _, first := range []int{0, 10, 48, 100, 200} {
			o := keeps("a,b", "1", "2")
			o.Resp.Body, o.T = bytesFrom(first, n), n*8333
			checkReadAsItWas(t, o)
		}
	}
	for at := 0; at <= impl.MaxTime; at += 97 {
		o := keeps("lang", "de")
		o.T = at
		checkReadAsItWas(t, o)
	}
}

func TestPromise10WhatIsNoObjectIsReadAsNone(t *testing.T) {
	for _, o := range wrongObjs() {
		checkObjOk(t, o, false)
		// Names stand in no text, so that wrong ones are read as right ones.
		checkObjRead(t, objTextByHand(o))
	}
	checkNoObj(t, impl.ObjText(impl.Obj{}))
}

func checkKeptSuits(t *testing.T, q impl.Req, r impl.Resp, at int) bool {
	t.Helper()
	o, ok := impl.ObjOf(q, r, at)
	if !ok {
		if !sameObj(o, impl.Obj{}) {
			t.Fatalf("ObjOf(%#v, %#v, %d) = %#v beside a false", q, r, at, o)
		}
		return false
	}
	if !impl.ObjOk(o) || !impl.Suits(o.Names, o.Values, q.Fields) || !suitsByHand(o.Names, o.Values, q.Fields) || o.Path != q.Path || o.T != at || !sameResp(o.Resp, r) {
		t.Fatalf("ObjOf(%#v, %#v, %d) = %#v", q, r, at, o)
	}
	checkReadAsItWas(t, o)
	return true
}

func TestPromise10WhatIsKeptSuitsWhoAskedForIt(t *testing.T) {
	kept := 0
	for i, q := range append(keepingReqs(), asks("lang", "de"), asks("a", "1", "c", "-", "lang", "HTTP/1.1 200 ."), impl.Req{Method: impl.MtGet, Path: "/", Fields: manyFields(8), Body: "x"}) {
		for j, r := range keepingResps() {
			if checkKeptSuits(t, q, r, (i*4099+j*31)%(impl.MaxTime+1)) {
				kept++
			}
		}
	}
	if kept == 0 {
		t.Error("nothing was kept")
	}
	for _, list := range fieldLists([]string{"a", "b", "c"}, []string{"1", "-", "x y"}, 3) {
		q := impl.Req{Method: impl.MtGet, Path: "/a", Fields: list}
		for _, vary := range []string{"a", "B", "a,b", "b, A", "c,b,a,d", "a,a", ",", "d"} {
			if got := checkKeptSuits(t, q, tells("cache-control", "max-age=5", "vary", vary), len(list)); got != impl.ReqOk(q) {
				t.Fatalf("ObjOf of %#v and vary %q: %v", q, vary, got)
			}
		}
	}
	for _, s := range oddTexts() {
		checkKeptSuits(t, asks("lang", s), tells("cache-control", "max-age=5", "vary", "lang,kind"), 7)
		checkKeptSuits(t, asks(s, "de"), tells("cache-control", "max-age=5", "vary", s), 7)
	}
}
