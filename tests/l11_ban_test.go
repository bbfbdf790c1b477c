package tests

import (
	"fmt"
	"math"
	"regexp"
	"slices"
	"strconv"
	"strings"
	"testing"

	"loop.example/g00239/impl"
)

var (
	pathBanForm  = regexp.MustCompile(`^ban (path|below) (0|[1-9][0-9]{0,5}|1000000) (/[!-~]{0,59})$`)
	fieldBanForm = regexp.MustCompile(`^ban field (0|[1-9][0-9]{0,5}|1000000) ([a-z0-9-]{1,20})\x0a([!-~]|[!-~][ -~]{0,58}[!-~])$`)
)

func banPath(path string, at int) impl.Ban { return impl.Ban{Kind: 1, A: path, T: at} }

func banBelow(path string, at int) impl.Ban { return impl.Ban{Kind: 2, A: path, T: at} }

func banField(name, value string, at int) impl.Ban {
	return impl.Ban{Kind: 3, A: name, B: value, T: at}
}

func banOkByHand(b impl.Ban) bool {
	if b.T < 0 || b.T > 1000000 {
		return false
	}
	if b.Kind == 3 {
		return tokenForm.MatchString(b.A) && valueForm.MatchString(b.B)
	}
	return (b.Kind == 1 || b.Kind == 2) && pathForm.MatchString(b.A) && b.B == ""
}

func hitsByHand(b impl.Ban, o impl.Obj) bool {
	if !banOkByHand(b) || !objOkByHand(o) || o.T > b.T {
		return false
	}
	if b.Kind == 3 {
		return slices.Contains(o.Resp.Fields, impl.Field{Name: b.A, Value: b.B})
	}
	return o.Path == b.A || b.Kind == 2 && len(o.Path) > len(b.A) && o.Path[:len(b.A)] == b.A
}

// banTextByHand tells what would be the text, of what is not right, too.
func banTextByHand(b impl.Ban) string {
	if b.Kind == 3 {
		return fmt.Sprintf("ban field %d %s\x0a%s", b.T, b.A, b.B)
	}
	return fmt.Sprintf("ban %s %d %s", map[int]string{1: "path", 2: "below"}[b.Kind], b.T, b.A)
}

func banByHand(s string) (impl.Ban, bool) {
	if found := pathBanForm.FindStringSubmatch(s); found != nil {
		at, _ := strconv.Atoi(found[2])
		return impl.Ban{Kind: map[string]int{"path": 1, "below": 2}[found[1]], A: found[3], T: at}, true
	}
	if found := fieldBanForm.FindStringSubmatch(s); found != nil {
		at, _ := strconv.Atoi(found[1])
		return impl.Ban{Kind: 3, A: found[2], B: found[3], T: at}, true
	}
	return impl.Ban{}, false
}

func checkBanOk(t *testing.T, b impl.Ban, want bool) {
	t.Helper()
	if got := impl.BanOk(b); got != want {
		t.Fatalf("BanOk(%#v) = %v", b, got)
	}
	text := ""
	if want {
		text = banTextByHand(b)
	}
	if got := impl.BanText(b); got != text {
		t.Fatalf("BanText(%#v) = %#v, not %#v", b, got, text)
	}
}

func checkHits(t *testing.T, b impl.Ban, o impl.Obj, want bool) {
	t.Helper()
	if got := impl.Hits(b, o); got != want {
		t.Fatalf("Hits(%#v, %#v) = %v", b, o, got)
	}
	if got := impl.HitsAny([]impl.Ban{b}, o); got != want {
		t.Fatalf("HitsAny of %#v alone, %#v = %v", b, o, got)
	}
}

func checkHitsAny(t *testing.T, list []impl.Ban, o impl.Obj, want bool) {
	t.Helper()
	if got := impl.HitsAny(list, o); got != want {
		t.Fatalf("HitsAny(%#v, %#v) = %v", list, o, got)
	}
}

// checkBanRead holds BanRead to what was read by hand, and to its own text.
func checkBanRead(t *testing.T, s string) {
	t.Helper()
	want, wantOk := banByHand(s)
	got, ok := impl.BanRead(s)
	if got != want || ok != wantOk {
		t.Fatalf("BanRead(%#v) = %#v, %v, not %#v, %v", s, got, ok, want, wantOk)
	}
	if ok && (impl.BanText(got) != s || !impl.BanOk(got)) {
		t.Fatalf("BanRead(%#v) = %#v, whose text is %#v", s, got, impl.BanText(got))
	}
}

// checkNoBan is for texts that are no ban's, told without any reader.
func checkNoBan(t *testing.T, s string) {
	t.Helper()
	if b, ok := impl.BanRead(s); ok || b != (impl.Ban{}) {
		t.Fatalf("BanRead(%#v) = %#v, %v", s, b, ok)
	}
}

func banTimes() []int { return []int{0, 1, 9, 10, 4711, 999999, impl.MaxTime} }

func banNames() []string {
	return []string{"a", "0", "-", "etag", "vary", "cache-control", "content-length", "path", "field", "ban", strings.Repeat("z", 20)}
}

// banValues has values that are easily taken for something else of a text.
func banValues() []string {
	return append(objValues(), "ban path 3 /a", "ban below 3 /", "ban field 3 etag", "field 3 etag", "3 etag", "etag", "path", "ban", "\"v1\"", "v 1")
}

func rightBans() []impl.Ban {
	var all []impl.Ban
	for i, path := range append(rightPaths(), "/3", "/ban", "/path", "/etag", "/x/y/z") {
		for _, at := range banTimes() {
			all = append(all, banPath(path, at), banBelow(path, at))
		}
		for j, name := range banNames() {
			for k, value := range banValues() {
				all = append(all, banField(name, value, banTimes()[(i+j+k)%len(banTimes())]))
			}
		}
	}
	return all
}

// someBans are right bans of all kinds, few enough to turn the text of each at
// every place.
func someBans() []impl.Ban {
	long := "/" + strings.Repeat("a", impl.MaxText-1)
	return []impl.Ban{
		banPath("/", 0), banPath("/a", 3), banPath("/ban", 1000000), banPath(long, impl.MaxTime), banPath("/3", 10), banPath("/a/b.html?x=1", 4711),
		banBelow("/", 0), banBelow("/a", 3), banBelow("/a/", 120), banBelow(long, impl.MaxTime), banBelow("/~!", 999999),
		banField("a", "b", 0), banField("etag", "v 1", 3), banField("-", "-", 10), banField("0", "0", 1), banField("etag", "ban field 3 etag", 3), banField("path", "ban path 3 /a", 100),
		banField(strings.Repeat("z", 20), strings.Repeat("x", impl.MaxText), impl.MaxTime), banField("vary", "a  b", 7),
	}
}

func wrongBans() []impl.Ban {
	return []impl.Ban{
		{}, {Kind: 1}, {Kind: 2}, {Kind: 3}, {A: "/a", T: 7}, {Kind: 4, A: "/a", T: 7}, {Kind: -1, A: "/a", T: 7}, {Kind: 1, A: "/a", B: "x", T: 7}, {Kind: 2, A: "/a", B: "x", T: 7}, {Kind: 1, A: "a", T: 7}, {Kind: 2, A: "a", T: 7}, {Kind: 1, A: "/a b", T: 7},
		{Kind: 3, A: "etag", T: 7}, {Kind: 3, B: "v1", T: 7}, {Kind: 3, A: "Etag", B: "v1", T: 7}, {Kind: 3, A: "/a", B: "v1", T: 7}, {Kind: 3, A: "etag", B: " v1", T: 7}, {Kind: 3, A: "etag", B: "v1 ", T: 7}, {Kind: 3, A: "etag", B: "v\n1", T: 7},
		banPath("/a", -1), banBelow("/a", -1), banField("etag", "v1", -1), banPath("/a", impl.MaxTime+1), banBelow("/a", impl.MaxTime+1), banField("etag", "v1", impl.MaxTime+1),
	}
}

func TestBanKindsAreAsTheyAreTold(t *testing.T) {
	if impl.BnPath != 1 || impl.BnBelow != 2 || impl.BnField != 3 {
		t.Error("the kinds have other numbers", impl.BnPath, impl.BnBelow, impl.BnField)
	}
}

func TestBanOk(t *testing.T) {
	for _, b := range append(rightBans(), someBans()...) {
		checkBanOk(t, b, true)
	}
	for _, b := range wrongBans() {
		checkBanOk(t, b, false)
	}
}

func TestBanOkKinds(t *testing.T) {
	for _, kind := range []int{math.MinInt, math.MinInt + 1, -1 << 32, -4, -3, -2, -1, 0, 4, 5, 6, 7, 100, 257, 258, 259, 1<<16 + 1, 1<<32 + 1, 1<<32 + 2, 1<<32 + 3, math.MaxInt - 1, math.MaxInt} {
		for _, b := range []impl.Ban{banPath("/a", 7), banBelow("/a", 7), banField("a", "b", 7), banPath("", 0), banField("a", "", 0)} {
			b.Kind = kind
			checkBanOk(t, b, false)
		}
	}
	for kind := -3; kind <= 7; kind++ {
		checkBanOk(t, impl.Ban{Kind: kind, A: "/a"}, kind == 1 || kind == 2)
		checkBanOk(t, impl.Ban{Kind: kind, A: "a", B: "b"}, kind == 3)
		checkBanOk(t, impl.Ban{Kind: kind, A: "/a", B: "b"}, false)
		checkBanOk(t, impl.Ban{Kind: kind, A: "a"}, false)
		checkBanOk(t, impl.Ban{Kind: kind}, false)
	}
}

func checkPathBansOk(t *testing.T, path string, want bool) {
	t.Helper()
	for _, at := range []int{0, 7, impl.MaxTime} {
		checkBanOk(t, banPath(path, at), want)
		checkBanOk(t, banBelow(path, at), want)
	}
}

func TestBanOkPaths(t *testing.T) {
	checkPathBansOk(t, "", false)
	for _, path := range rightPaths() {
		checkPathBansOk(t, path, true)
	}
	for n := 1; n <= 3*impl.MaxText; n++ {
		checkPathBansOk(t, "/"+strings.Repeat("a", n-1), n <= 60)
		checkPathBansOk(t, strings.Repeat("a", n), false)
	}
	for _, b := range singleBytes() {
		checkPathBansOk(t, b, b == "/")
		checkPathBansOk(t, b+"/", b == "/")
		right := 33 <= b[0] && b[0] <= 126
		for _, path := range []string{"/" + b, "/" + b + "a", "/a" + b, "/" + strings.Repeat("a", impl.MaxText-2) + b} {
			checkPathBansOk(t, path, right)
		}
	}
	for _, s := range oddTexts() {
		checkPathBansOk(t, s, pathForm.MatchString(s))
		checkPathBansOk(t, "/"+s, pathForm.MatchString("/"+s))
	}
}

func TestBanOkOfPathsHasNoValue(t *testing.T) {
	for _, kind := range []int{impl.BnPath, impl.BnBelow} {
		for _, b := range append(append(oddTexts(), banValues()...), "", "/", "/a", strings.Repeat("x", 1000)) {
			checkBanOk(t, impl.Ban{Kind: kind, A: "/a", B: b, T: 7}, b == "")
		}
	}
}

func TestBanOkFieldNames(t *testing.T) {
	for _, name := range banNames() {
		checkBanOk(t, banField(name, "x", 7), true)
		checkBanOk(t, banField(name, "", 7), false)
	}
	for n := range 3 * impl.MaxText {
		checkBanOk(t, banField(strings.Repeat("a", n), "x", 7), 1 <= n && n <= 20)
	}
	for _, name := range []string{"", " ", "A", "Etag", "ETAG", "a b", " a", "a ", "a_b", "a.b", "a:", "/", "/a", "*", "\n", "a\n", "\x00", "\xff", "\u00e4"} {
		checkBanOk(t, banField(name, "x", 7), false)
	}
	for _, s := range oddTexts() {
		checkBanOk(t, banField(s, "x", 7), tokenForm.MatchString(s))
		checkBanOk(t, banField("a"+s, "x", 7), tokenForm.MatchString("a"+s))
	}
}

func TestBanOkFieldValues(t *testing.T) {
	for _, value := range banValues() {
		checkBanOk(t, banField("etag", value, 7), true)
	}
	for n := range 3 * impl.MaxText {
		checkBanOk(t, banField("etag", strings.Repeat("x", n), 7), 1 <= n && n <= 60)
	}
	for _, value := range []string{"", " ", "  ", " x", "x ", " x ", strings.Repeat(" ", 60), "x" + strings.Repeat(" ", 59), "x\n", "\nx", "a\nb", "a\r\nb", "x\r", "\tx", "x\x7f", "\x1f", "\u00e4", "\xff", "\x00"} {
		checkBanOk(t, banField("etag", value, 7), false)
	}
	for _, b := range singleBytes() {
		checkBanOk(t, banField("etag", b, 7), 33 <= b[0] && b[0] <= 126)
		checkBanOk(t, banField("etag", "x"+b+"x", 7), 32 <= b[0] && b[0] <= 126)
	}
	for _, s := range oddTexts() {
		checkBanOk(t, banField("etag", s, 7), valueForm.MatchString(s))
		checkBanOk(t, banField("etag", "x"+s+"x", 7), valueForm.MatchString("x"+s+"x"))
	}
}

func TestBanOkTimes(t *testing.T) {
	for _, at := range objTimes() {
		for _, b := range []impl.Ban{banPath("/a", at), banBelow("/", at), banField("etag", "v1", at)} {
			checkBanOk(t, b, 0 <= at && at <= impl.MaxTime)
		}
	}
}

// lies is a right object at this path, with these fields, that came at 7.
func lies(path string, words ...string) impl.Obj {
	return impl.Obj{Path: path, Resp: tells(words...), T: 7}
}

func TestHitsPath(t *testing.T) {
	long := "/" + strings.Repeat("a", impl.MaxText-1)
	for _, path := range append(rightPaths(), "/ab", "/a/b", "/A", long) {
		o := lies(path)
		checkHits(t, banPath(path, 7), o, true)
		checkHits(t, banPath(path[:len(path)-1], 7), o, false)
		checkHits(t, banPath(path+"x", 7), o, false)
		checkHits(t, banPath(path+"/", 7), o, false)
		checkHits(t, banPath(path[:len(path)-1]+"x", 7), o, false)
		for _, other := range append(rightPaths(), "/ab", "/a/b", "/A", long) {
			checkHits(t, banPath(other, 7), o, other == path)
		}
	}
	checkHits(t, banPath("/a", 7), lies("/A"), false)
	checkHits(t, banPath("/a", 7), lies("/%61"), false)
	checkHits(t, banPath("/a", 7), lies("/a?x"), false)
}

func TestHitsBelow(t *testing.T) {
	long := "/" + strings.Repeat("a", impl.MaxText-1)
	for _, path := range append(rightPaths(), "/ab", "/a/b", "/A", long) {
		o := lies(path)
		for n := 1; n <= len(path); n++ {
			checkHits(t, banBelow(path[:n], 7), o, true)
			// It parts from the path at the last byte.
			if n > 1 {
				other := byte('x')
				if path[n-1] == 'x' {
					other = 'y'
				}
				checkHits(t, banBelow(path[:n-1]+string(rune(other)), 7), o, false)
			}
		}
		checkHits(t, banBelow("", 7), o, false)
		checkHits(t, banBelow(path+"x", 7), o, false)
		checkHits(t, banBelow(path+"/", 7), o, false)
		checkHits(t, banBelow("/", 7), o, true)
	}
	for path, want := range map[string]bool{"/a/b": true, "/a/bc": true, "/a/b/": true, "/a/b/c": true, "/a/b?x": true, "/a/": false, "/a": false, "/": false, "/a/c": false, "/a/B": false, "/x/a/b": false, "//a/b": false} {
		checkHits(t, banBelow("/a/b", 7), lies(path), want)
	}
}

func TestHitsField(t *testing.T) {
	o := lies("/a", "etag", "v 1", "vary", ",", "a", "b")
	for _, c := range []struct {
		name, value string
		want        bool
	}{
		{"etag", "v 1", true}, {"vary", ",", true}, {"a", "b", true}, {"etag", "v 2", false}, {"etag", "V 1", false}, {"etag", "v", false}, {"etag", "v 11", false}, {"etag", "v  1", false}, {"etag", "b", false}, {"a", "v 1", false}, {"a", "a", false},
		{"Etag", "v 1", false}, {"ETAG", "v 1", false}, {"A", "b", false}, {"eta", "v 1", false}, {"etags", "v 1", false}, {"b", "a", false}, {"b", "b", false}, {"b", "-", false}, {"b", "", false}, {"etag", "", false}, {"", "", false}, {"", "b", false},
		{"lang", "-", false}, {"content-length", "1", false}, {"path", "/a", false}, {"status", "200", false}, {"etag", " v 1", false}, {"etag", "v 1 ", false}, {"a", "b\n", false},
	} {
		checkHits(t, banField(c.name, c.value, 7), o, c.want)
		checkHits(t, banField(c.name, c.value, 7), lies("/x/y", "etag", "v 1", "vary", ",", "a", "b"), c.want)
	}
	for i, f := range manyFields(impl.MaxFields) {
		for j, other := range manyFields(impl.MaxFields) {
			checkHits(t, banField(f.Name, other.Value, 7), impl.Obj{Path: "/", Resp: impl.Resp{Status: 404, Fields: manyFields(impl.MaxFields)}}, i == j)
		}
	}
	// What was asked, and what the answer hangs on, are no fields of it.
	asked := keeps("lang", "de")
	checkHits(t, banField("lang", "de", 7), asked, false)
	checkHits(t, banField("vary", "lang", 7), asked, true)
	checkHits(t, banField("vary", "Lang", 7), asked, false)
	checkHits(t, banField("lang", "de", 7), lies("/a"), false)
}

// hitBans are bans, one of each kind, that hit lies("/a/b", "etag", "v1") in
// time.
func hitBans(at int) []impl.Ban {
	return []impl.Ban{banPath("/a/b", at), banBelow("/a", at), banField("etag", "v1", at)}
}

func TestHitsInTime(t *testing.T) {
	o := lies("/a/b", "etag", "v1")
	for came := 0; came <= impl.MaxTime; came += 1 + came/3 {
		o.T = came
		for _, at := range []int{came - 1, came, came + 1} {
			for _, b := range hitBans(at) {
				checkHits(t, b, o, came <= at && at <= impl.MaxTime)
			}
		}
	}
	for _, came := range objTimes() {
		for _, at := range objTimes() {
			o.T = came
			for _, b := range hitBans(at) {
				checkHits(t, b, o, 0 <= came && came <= at && at <= impl.MaxTime)
			}
		}
	}
}

func TestHitsOfWrongBans(t *testing.T) {
	o := lies("/a", "etag", "v1")
	for _, at := range []int{7, 8, impl.MaxTime} {
		for _, b := range wrongBans() {
			checkHits(t, b, o, false)
		}
		for _, kind := range []int{math.MinInt, -3, -1, 0, 4, 257, 1<<32 + 1, math.MaxInt} {
			checkHits(t, impl.Ban{Kind: kind, A: "/a", T: at}, o, false)
			checkHits(t, impl.Ban{Kind: kind, A: "etag", B: "v1", T: at}, o, false)
		}
		checkHits(t, banPath("/a", at), o, true)
		checkHits(t, impl.Ban{Kind: 1, A: "/a", B: "x", T: at}, o, false)
		checkHits(t, banBelow("/a", at), o, true)
		checkHits(t, impl.Ban{Kind: 2, A: "/a", B: "x", T: at}, o, false)
		checkHits(t, banBelow("", at), o, false)
		checkHits(t, banField("etag", "v1", at), o, true)
	}
	for _, b := range hitBans(impl.MaxTime + 1) {
		checkHits(t, b, lies("/a/b", "etag", "v1"), false)
	}
}

// Each of these objects would be hit, were it right.
func TestHitsOfWrongObjects(t *testing.T) {
	right := lies("/a/b", "etag", "v1")
	var wrong []impl.Obj
	turn := func(with func(o *impl.Obj)) {
		o := right
		o.Resp.Fields = slices.Clone(o.Resp.Fields)
		with(&o)
		wrong = append(wrong, o)
	}
	turn(func(o *impl.Obj) { o.T = -1 })
	turn(func(o *impl.Obj) { o.T = math.MinInt })
	turn(func(o *impl.Obj) { o.Names = []string{"lang"} })
	turn(func(o *impl.Obj) { o.Values = []string{"de"} })
	turn(func(o *impl.Obj) { o.Names, o.Values = []string{"lang"}, []string{"de"} })
	turn(func(o *impl.Obj) { o.Resp.Status = 0 })
	turn(func(o *impl.Obj) { o.Resp.Status = 600 })
	turn(func(o *impl.Obj) { o.Resp.Body = strings.Repeat("x", impl.MaxBody+1) })
	turn(func(o *impl.Obj) { o.Resp.Fields = append(o.Resp.Fields, manyFields(8)...) })
	turn(func(o *impl.Obj) { o.Resp.Fields = append(o.Resp.Fields, o.Resp.Fields...) })
	turn(func(o *impl.Obj) { o.Resp.Fields = append(o.Resp.Fields, fieldsOf("content-length", "1")...) })
	turn(func(o *impl.Obj) { o.Resp.Fields = append(o.Resp.Fields, fieldsOf("vary", "*")...) })
	turn(func(o *impl.Obj) { o.Resp.Fields = append(o.Resp.Fields, fieldsOf("vary", "lang")...) })
	for _, b := range hitBans(7) {
		checkHits(t, b, right, true)
		for _, o := range wrong {
			checkHits(t, b, o, false)
		}
		checkHits(t, b, impl.Obj{}, false)
	}
	for _, path := range []string{"/a/b ", "/a/b\n", "/a/b\xff", "/a/b" + strings.Repeat("c", impl.MaxText)} {
		checkHits(t, banBelow("/a/b", 7), lies(path), false)
		checkHits(t, banPath(path, 7), lies(path), false)
		checkHits(t, banField("etag", "v1", 7), lies(path, "etag", "v1"), false)
	}
	for _, b := range []impl.Ban{banPath("", 7), banBelow("", 7), banPath("a", 7), banBelow("a", 7)} {
		checkHits(t, b, lies(b.A), false)
	}
	checkHits(t, banField("content-length", "1", 7), lies("/a", "content-length", "1"), false)
	checkHits(t, banField("Etag", "v1", 7), lies("/a", "Etag", "v1"), false)
	for _, o := range wrongObjs() {
		for _, b := range []impl.Ban{banPath(o.Path, impl.MaxTime), banBelow("/", impl.MaxTime), banField("cache-control", "max-age=5", impl.MaxTime)} {
			checkHits(t, b, o, hitsByHand(b, o))
		}
	}
}

func TestHitsWhatMayNotBeKept(t *testing.T) {
	for _, r := range []impl.Resp{tells("cache-control", "no-store", "etag", "v1"), tells("etag", "v1"), {Status: 404, Fields: fieldsOf("etag", "v1")}, {Status: 599, Fields: fieldsOf("etag", "v1", "cache-control", "private")}} {
		for _, b := range hitBans(7) {
			checkHits(t, b, impl.Obj{Path: "/a/b", Resp: r, T: 7}, true)
		}
	}
}

func TestHitsOfAllBansAndObjects(t *testing.T) {
	objs := append(append(someObjs(), wrongObjs()...), lies("/ban"), lies("/a", "etag", "v 1"), lies("/a/b.html?x=1", "a", "b", "-", "-", "0", "0"), lies("/~!", "vary", "a  b"))
	for i, b := range append(append(someBans(), wrongBans()...), rightBans()...) {
		for j, o := range objs {
			if i >= 50 && (i+j)%7 > 0 {
				continue
			}
			for _, at := range []int{b.T - 1, b.T, b.T + 1, 0} {
				o.T = at
				checkHits(t, b, o, hitsByHand(b, o))
			}
		}
	}
}

func TestHitsOfAnyBytes(t *testing.T) {
	for _, s := range oddTexts() {
		for _, o := range []impl.Obj{lies("/"+s, "etag", "v1"), lies("/a", "etag", s), lies("/a", s, "v1")} {
			for _, b := range []impl.Ban{banPath("/"+s, 7), banBelow("/"+s, 7), banField("etag", s, 7), banField(s, "v1", 7), {Kind: 1, A: "/a", B: s, T: 7}, {Kind: 2, A: "/", B: s, T: 7}} {
				if got, want := impl.Hits(b, o), hitsByHand(b, o); got != want {
					t.Fatalf("Hits(%#v, %#v) = %v", b, o, got)
				}
			}
		}
	}
}

func TestHitsAny(t *testing.T) {
	o := lies("/a/b", "etag", "v1")
	misses := []impl.Ban{banPath("/a", 7), banBelow("/a/c", 7), banField("etag", "v2", 7), banPath("/a/b", 6), banBelow("/", 6), banField("etag", "v1", 6)}
	wrong := []impl.Ban{{}, {Kind: 4, A: "/a/b", T: 7}, {Kind: 1, A: "/a/b", B: "x", T: 7}, {Kind: 2, T: 7}, {Kind: 3, A: "Etag", B: "v1", T: 7}, banPath("/a/b", impl.MaxTime+1), banBelow("/", -1)}
	checkHitsAny(t, nil, o, false)
	checkHitsAny(t, []impl.Ban{}, o, false)
	for _, others := range [][]impl.Ban{misses, wrong, slices.Concat(misses, wrong), slices.Concat(wrong, misses), misses[:1], wrong[:1], slices.Repeat(misses, 500)} {
		checkHitsAny(t, others, o, false)
		for _, b := range hitBans(7) {
			for _, at := range []int{0, 1, len(others) / 2, len(others) - 1, len(others)} {
				checkHitsAny(t, slices.Insert(slices.Clone(others), at, b), o, true)
				checkHitsAny(t, slices.Insert(slices.Clone(others), at, b, b), o, true)
			}
		}
	}
	checkHitsAny(t, hitBans(7), o, true)
	checkHitsAny(t, hitBans(6), o, false)
	checkHitsAny(t, append(hitBans(6), hitBans(8)...), o, true)
	checkHitsAny(t, hitBans(7), impl.Obj{}, false)
	o.T = -1
	checkHitsAny(t, hitBans(7), o, false)
}

func TestHitsAnyIsOneOfThemHits(t *testing.T) {
	all := append(someBans(), wrongBans()...)
	for _, o := range append(someObjs(), lies("/a", "etag", "v 1"), lies("/ban", "a", "b")) {
		for n := range len(all) {
			for _, came := range []int{0, 3, 7, 5000, impl.MaxTime} {
				o.T = came
				for _, list := range [][]impl.Ban{all[:n], all[n:], all[n:min(n+3, len(all))]} {
					want := slices.ContainsFunc(list, func(b impl.Ban) bool { return hitsByHand(b, o) })
					checkHitsAny(t, list, o, want)
				}
			}
		}
	}
}

func TestBanText(t *testing.T) {
	long := "/" + strings.Repeat("a", 59)
	for _, c := range []struct {
		b    impl.Ban
		want string
	}{
		{banPath("/", 0), "ban path 0 /"}, {banPath("/a", 3), "ban path 3 /a"}, {banPath("/x?y=1", 1000000), "ban path 1000000 /x?y=1"}, {banPath(long, 10), "ban path 10 " + long},
		{banBelow("/", 0), "ban below 0 /"}, {banBelow("/a", 3), "ban below 3 /a"}, {banBelow("/a/", 1000000), "ban below 1000000 /a/"}, {banBelow(long, 10), "ban below 10 " + long},
		{banField("etag", "v 1", 3), "ban field 3 etag\nv 1"}, {banField("a", "b", 0), "ban field 0 a\nb"}, {banField("-", "~", 1000000), "ban field 1000000 -\n~"}, {banField("path", "ban path 3 /a", 9), "ban field 9 path\nban path 3 /a"},
		{impl.Ban{}, ""}, {impl.Ban{Kind: 4, A: "/a"}, ""}, {impl.Ban{A: "/a"}, ""}, {impl.Ban{Kind: 1, A: "/a", B: "x"}, ""}, {impl.Ban{Kind: 2, A: "/a", B: "x"}, ""}, {banPath("a", 3), ""}, {banBelow("", 3), ""}, {banPath("/a", -1), ""}, {banPath("/a", 1000001), ""},
		{banField("etag", "", 3), ""}, {banField("", "v 1", 3), ""}, {banField("Etag", "v 1", 3), ""}, {banField("etag", "v 1 ", 3), ""}, {banField("etag", "v 1", -1), ""}, {banField("etag", "v 1", 1000001), ""},
	} {
		if got := impl.BanText(c.b); got != c.want {
			t.Errorf("BanText(%#v) = %#v, not %#v", c.b, got, c.want)
		}
	}
}

func TestBanRead(t *testing.T) {
	for s, want := range map[string]impl.Ban{
		"ban path 0 /": banPath("/", 0), "ban path 3 /a": banPath("/a", 3), "ban path 1000000 /x?y=1": banPath("/x?y=1", 1000000), "ban path 7 /ban": banPath("/ban", 7), "ban below 0 /": banBelow("/", 0), "ban below 4711 /a/b": banBelow("/a/b", 4711),
		"ban field 3 etag\nv 1": banField("etag", "v 1", 3), "ban field 0 a\nb": banField("a", "b", 0), "ban field 1000000 -\n-": banField("-", "-", 1000000), "ban field 3 a\nban field 3 a": banField("a", "ban field 3 a", 3), "ban field 3 3\nban path 3 /a": banField("3", "ban path 3 /a", 3),
	} {
		if got, ok := impl.BanRead(s); !ok || got != want {
			t.Errorf("BanRead(%#v) = %#v, %v", s, got, ok)
		}
	}
}

func TestBanTextsCutShortOrLonger(t *testing.T) {
	checkNoBan(t, "")
	for _, b := range someBans() {
		s := banTextByHand(b)
		checkBanRead(t, s)
		first := len(s) - len(b.A) + 1
		if b.Kind == impl.BnField {
			first = len(s) - len(b.B) + 1
		}
		for cut := range len(s) {
			if cut < first {
				checkNoBan(t, s[:cut])
			}
			// What is left of a path or a value may be one, and a value a ban's text.
			checkBanRead(t, s[:cut])
			checkBanRead(t, s[cut:])
		}
		for _, more := range singleBytes() {
			checkBanRead(t, s+more)
			checkNoBan(t, more+s)
		}
		for _, more := range []string{" ", "\n", "\r\n", "\nx", "\n" + s, "\x00", "\xff", "\x7f"} {
			checkNoBan(t, s+more)
		}
		for _, more := range []string{s, "x", "ban ", "/", "ban path 3 /a"} {
			checkBanRead(t, s+more)
			checkNoBan(t, more+s)
		}
	}
	for _, s := range someTexts() {
		checkNoBan(t, s)
	}
	for _, o := range someObjs() {
		checkNoBan(t, objTextByHand(o))
	}
}

func TestBanTextsTurnedAtEachPlace(t *testing.T) {
	letters := []string{"\r", "\n", " ", ":", "/", ",", "0", "1", "9", "a", "A", "-", "~", "\x7f", "\x00", "\xff"}
	for _, b := range someBans() {
		s := banTextByHand(b)
		for at := range len(s) {
			checkBanRead(t, s[:at]+s[at+1:])
			checkBanRead(t, s[:at]+s[at:at+1]+s[at:])
			for _, letter := range letters {
				checkBanRead(t, s[:at]+letter+s[at:])
			}
			for _, other := range singleBytes() {
				checkBanRead(t, s[:at]+other+s[at+1:])
			}
		}
	}
}

func TestBanBlanksAndLineEndsMissingOrDoubled(t *testing.T) {
	for _, b := range someBans() {
		s := banTextByHand(b)
		blanks := 0
		for at := range len(s) {
			others := []string{"", "  ", "\n", "\t", " \n", "\n ", "\r\n", "\x00", "\u00a0", ","}
			if s[at] == ' ' && blanks < 3 {
				blanks++
			} else if s[at] == '\n' {
				others = []string{"", "\n\n", " ", "\r", "\r\n", "\n\r", " \n", "\n ", "\x00", "\x0b", "\u0085"}
			} else {
				continue
			}
			for _, other := range others {
				checkNoBan(t, s[:at]+other+s[at+1:])
			}
		}
		if blanks != 3 {
			t.Fatalf("%q has %d blanks", s, blanks)
		}
	}
}

func TestBanReadWords(t *testing.T) {
	tails := []string{" 3 /a", " 3 etag\nv1", " 3 /a\nv1", " 3 etag", " 3 a\n", " 3 /a\n"}
	for _, first := range []string{"", " ", "ban", "ban ", "ban  ", "an path", "bans path", "Ban path", "BAN path", "BAN PATH", " ban path", "\nban path", "ban\npath", "banpath", "path", "below", "field", "obj", "obj path", "ban ban path", "ban path path", "bn path", "ba path"} {
		for _, tail := range tails {
			checkNoBan(t, first+tail)
		}
	}
	for _, word := range []string{"", "x", "Path", "PATH", "patH", "pat", "paths", "ath", "path\x00", "path ", " path", "path\n", "Below", "BELOW", "belo", "belows", "elow", "Field", "FIELD", "fiel", "fields", "ield", "pathbelow", "path below", "path,below", "1", "2", "3", "0", "ban", "obj", "get", "\xff", "\u00b5", "\uff50ath"} {
		for _, tail := range tails {
			checkNoBan(t, "ban "+word+tail)
		}
	}
	for _, tail := range tails {
		for _, word := range []string{"path", "below"} {
			if tail == tails[0] {
				checkBanRead(t, "ban "+word+tail)
			} else {
				checkNoBan(t, "ban "+word+tail)
			}
		}
		if tail == tails[1] {
			checkBanRead(t, "ban field"+tail)
		} else {
			checkNoBan(t, "ban field"+tail)
		}
	}
}

func TestBanReadTimes(t *testing.T) {
	for _, b := range someBans() {
		first, rest, _ := strings.Cut(banTextByHand(b), fmt.Sprintf(" %d ", b.T))
		for _, at := range append(lengthForms(b.T), "1000000", "999999", "0", "7") {
			checkBanRead(t, first+" "+at+" "+rest)
		}
		for _, at := range append(noNumbers(), "1000000000000", "0x3", "3\n", "-1000000", "00", "000") {
			checkNoBan(t, first+" "+at+" "+rest)
		}
		checkNoBan(t, first+" "+rest)
		for _, at := range objTimes() {
			b.T = at
			checkBanRead(t, banTextByHand(b))
			if at < 0 || at > impl.MaxTime {
				checkNoBan(t, banTextByHand(b))
			}
		}
	}
}

func TestBanReadPaths(t *testing.T) {
	for _, path := range append(rightPaths(), "", "a", "a/", " /", "/ ", "/ a", "/a b", "/a 7 1", "/\n", "/\r\n", "/a\n/b", "\n/a", "/a\nx", "/\x1f", "/\x7f", "/\xff", "/\u00e4", "/"+strings.Repeat("a", 60), "/"+strings.Repeat("a", 5000)) {
		for _, b := range []impl.Ban{banPath(path, 7), banBelow(path, 7)} {
			if !pathForm.MatchString(path) {
				checkNoBan(t, banTextByHand(b))
			}
			checkBanRead(t, banTextByHand(b))
			checkNoBan(t, banTextByHand(b)+"\n")
			checkNoBan(t, banTextByHand(b)+"\nx")
			checkNoBan(t, strings.Replace(banTextByHand(b), " 7 ", " ", 1))
		}
		checkNoBan(t, "ban field 7 "+path)
		checkNoBan(t, "ban field 7 "+path+"\n")
		checkBanRead(t, "ban field 7 "+path+"\nx")
	}
}

func TestBanReadFields(t *testing.T) {
	for _, name := range append(banNames(), "", " ", "A", "Etag", "a b", " a", "a ", "a_b", "a:", "/a", "\n", "a\n", "\r", "a\r", "\xff", "\u00e4", strings.Repeat("a", 21), strings.Repeat("a", 5000)) {
		for _, value := range append(banValues(), "", " ", " x", "x ", "x\r", "\rx", "a\nb", "\n", "x\n", "\nx", "\t", "\x7f", "\xff", "\u00e4", strings.Repeat("x", 61), strings.Repeat("x", 5000)) {
			s := banTextByHand(banField(name, value, 7))
			checkBanRead(t, s)
			if !tokenForm.MatchString(name) && !strings.Contains(name, "\n") || !valueForm.MatchString(value) {
				checkNoBan(t, s)
			}
			// The byte 10 between them is gone, or another one stands there.
			checkNoBan(t, "ban field 7 "+strings.ReplaceAll(name+value, "\n", ""))
			checkNoBan(t, "ban field 7 "+strings.ReplaceAll(name+" "+value, "\n", ""))
			checkNoBan(t, "ban field 7 "+name+"\r\n"+value)
			checkNoBan(t, "ban path 7 "+name+"\n"+value)
			checkNoBan(t, "ban below 7 "+name+"\n"+value)
		}
	}
}

func TestBanReadOfAllOrdersOfWords(t *testing.T) {
	for _, s := range textsOf([]string{"ban", "path", "below", "field", " ", "3", "0", "/a", "a", "\n"}, 5) {
		checkBanRead(t, s)
		checkBanRead(t, "ban "+s)
		checkBanRead(t, "ban path "+s)
		checkBanRead(t, "ban field 3 "+s)
	}
}

func TestBanReadOfAnyBytes(t *testing.T) {
	for _, s := range oddTexts() {
		checkNoBan(t, s)
		checkNoBan(t, "ban "+s)
		for _, b := range []impl.Ban{banPath(s, 7), banPath("/"+s, 7), banBelow("/a"+s, 7), banField(s, "x", 7), banField("a", s, 7), banField("a", "x"+s+"x", 7)} {
			checkBanRead(t, banTextByHand(b))
		}
		for _, text := range []string{"ban path 7 /a", "ban below 7 /a", "ban field 7 a\nb"} {
			checkBanRead(t, strings.Replace(text, " 7 ", " "+s+" ", 1))
			checkBanRead(t, strings.Replace(text, " 7 ", s+"7 ", 1))
			checkBanRead(t, strings.Replace(text, " 7 ", " 7"+s, 1))
			checkBanRead(t, strings.Replace(text, "ban ", s, 1))
			checkBanRead(t, strings.Replace(text, "\n", s, 1))
			checkBanRead(t, text+s)
		}
	}
	for _, s := range []string{strings.Repeat("\n", 100000), strings.Repeat("x\n", 100000), strings.Repeat(" ", 100000), strings.Repeat("9", 100000), strings.Repeat("ban path 7 /a\n", 10000), strings.Repeat("\xff", 100000), strings.Repeat("ban ", 100000)} {
		for _, head := range []string{"", "ban ", "ban path ", "ban below ", "ban field ", "ban path 7 ", "ban path 7 /", "ban below 7 /a", "ban field 7 ", "ban field 7 a", "ban field 7 a\n", "ban field 7 a\nb"} {
			checkNoBan(t, head+s)
		}
	}
}

var roomBan = impl.Ban{Kind: impl.BnBelow, A: "/", T: impl.MaxTime}

// roomyBans tells the bans in front of a longer list, and the longer one. What
// is behind them hits all there is, so that a look at it is seen, too.
func roomyBans(list []impl.Ban) (front, whole []impl.Ban) {
	whole = append(slices.Clone(list), roomBan, roomBan, roomBan)
	return whole[:len(list):len(whole)], whole
}

func TestBansAndObjectsAreNotWrittenInto(t *testing.T) {
	for _, list := range [][]impl.Ban{nil, someBans(), wrongBans(), hitBans(impl.MaxTime), slices.Concat(wrongBans(), someBans()), {banPath("/none", 9)}, {{}}} {
		for _, was := range append(someObjs(), wrongObjs()...) {
			o, lists := roomyObj(was)
			front, whole := roomyBans(list)
			wasLists, wasWhole := lists.copied(), slices.Clone(whole)
			want := slices.ContainsFunc(list, func(b impl.Ban) bool { return hitsByHand(b, was) })
			checkHitsAny(t, front, o, want)
			for _, b := range front {
				impl.Hits(b, o)
				impl.BanOk(b)
				impl.BanText(b)
			}
			checkHitsAny(t, front, o, want)
			if !lists.same(wasLists) || !slices.Equal(whole, wasWhole) {
				t.Fatalf("%#v or %#v was written into, or its room: %#v, %#v", list, was, whole, lists)
			}
		}
	}
}

func TestReadBansStay(t *testing.T) {
	for _, want := range someBans() {
		line := banTextByHand(want)
		s := strings.Clone(line)
		b, ok := impl.BanRead(s)
		text := impl.BanText(b)
		for _, other := range slices.Concat(someBans(), wrongBans()) {
			impl.BanRead(banTextByHand(other))
			impl.BanText(other)
		}
		if !ok || b != want || s != line || text != line {
			t.Fatalf("what was read from %#v turned: %#v, %v, %#v", line, b, ok, text)
		}
		checkBanRead(t, s)
	}
}

func TestBanTextsAreNewMemory(t *testing.T) {
	for _, was := range someBans() {
		s := strings.Clone(banTextByHand(was))
		b, ok := impl.BanRead(s)
		if !ok || sharesAny(fieldsOf(b.A, b.B), s) {
			t.Errorf("what is read from %q shares memory with it", s)
		}
		if again, _ := impl.BanRead(s); sharesAny(fieldsOf(again.A, again.B), b.A, b.B) {
			t.Errorf("what is read from %q twice shares memory", s)
		}
		was.A, was.B = strings.Clone(was.A), strings.Clone(was.B)
		if text := impl.BanText(was); text == "" || sharesAny(fieldsOf(text, ""), was.A, was.B) {
			t.Errorf("the text %q shares memory with an argument", text)
		}
	}
}

func checkBanReadAsItWas(t *testing.T, b impl.Ban) {
	t.Helper()
	text := impl.BanText(b)
	if got, ok := impl.BanRead(text); !ok || got != b || !impl.BanOk(b) {
		t.Fatalf("BanRead(BanText(%#v)) = BanRead(%#v) = %#v, %v", b, text, got, ok)
	}
}

func TestPromise11BansAreReadAsTheyWere(t *testing.T) {
	for _, b := range append(rightBans(), someBans()...) {
		checkBanReadAsItWas(t, b)
	}
	for at := 0; at <= impl.MaxTime; at += 89 {
		checkBanReadAsItWas(t, banPath("/a", at))
		checkBanReadAsItWas(t, banBelow("/", impl.MaxTime-at))
		checkBanReadAsItWas(t, banField("etag", "v 1", at))
	}
	for n := 1; n <= impl.MaxText; n++ {
		for b := 33; b <= 126; b++ {
			text := strings.Repeat(string(rune(b)), n)
			checkBanReadAsItWas(t, banPath("/"+text[1:], n))
			checkBanReadAsItWas(t, banBelow("/"+text[1:], n))
			checkBanReadAsItWas(t, banField("a", text, n))
			if n <= 20 && isTokenByte(byte(b)) {
				checkBanReadAsItWas(t, banField(text, "x", n))
			}
		}
	}
	for _, s := range oddTexts() {
		for _, b := range []impl.Ban{banPath("/"+s, 7), banBelow("/"+s, 7), banField("a", s, 7), banField(s, "x", 7)} {
			if impl.BanOk(b) {
				checkBanReadAsItWas(t, b)
			}
		}
	}
}

func TestPromise11WhatIsNoBanIsReadAsNone(t *testing.T) {
	for _, b := range wrongBans() {
		checkBanOk(t, b, false)
		checkNoBan(t, impl.BanText(b))
		// A B beyond its kind's stands in no text by hand.
		checkBanRead(t, banTextByHand(b))
	}
}

func TestPromise11WhatCameBehindABanIsNotHit(t *testing.T) {
	objs := append(someObjs(), lies("/a/b", "etag", "v1"), lies("/", "a", "b"), lies("/ban", "vary", "a  b"))
	for _, b := range append(someBans(), hitBans(0)...) {
		for _, o := range objs {
			for _, at := range append(banTimes(), 6, 7, 8) {
				b.T = at
				for _, came := range append(banTimes(), at+1, at+2, 6, 7, 8) {
					o.T = came
					if came > at && impl.Hits(b, o) {
						t.Fatalf("%#v came behind %#v and is hit", o, b)
					}
				}
			}
		}
	}
}

func TestPromise11ALaterBanHitsWhateverAnEarlierOneDoes(t *testing.T) {
	objs := append(someObjs(), lies("/a/b", "etag", "v1"), lies("/", "a", "b"), lies("/a/b.html?x=1", "etag", "v 1"))
	hit := 0
	for _, b := range append(someBans(), hitBans(0)...) {
		for _, o := range objs {
			for i, came := range banTimes() {
				o.T = came
				was := false
				for _, at := range banTimes() {
					b.T = at
					is := impl.Hits(b, o)
					if was && !is || is && at < banTimes()[i] {
						t.Fatalf("Hits(%#v, %#v) = %v", b, o, is)
					}
					was = is
					if is {
						hit++
					}
				}
			}
		}
	}
	if hit == 0 {
		t.Error("nothing was hit")
	}
}

func TestPromise11APathIsBelowItself(t *testing.T) {
	for _, path := range append(rightPaths(), "/x/y", "/x/") {
		for _, at := range banTimes() {
			o := lies(path)
			o.T = at
			checkHits(t, banBelow(path, at), o, true)
			checkHits(t, banPath(path, at), o, true)
		}
		// What a ban of the path hits, one of all below it hits, too.
		for _, other := range append(rightPaths(), "/x/y", "/x/") {
			if o := lies(other); impl.Hits(banPath(path, 7), o) && !impl.Hits(banBelow(path, 7), o) {
				t.Fatalf("%q is not below %q", other, path)
			}
		}
	}
}

func TestPromise11BansAnswerAnything(t *testing.T) {
	kinds := []int{math.MinInt, -1, 0, 1, 2, 3, 4, math.MaxInt}
	texts := []string{"", "/", "/a", "a", "\xff", "\n", " ", strings.Repeat("x", 100000), "/" + strings.Repeat("a", 100000)}
	objs := []impl.Obj{{}, {Path: strings.Repeat("/", 100000)}, lies("/a", "a", "a"), {Path: "/a", Names: make([]string, 1000), Values: make([]string, 1000)}, {Path: "/", Resp: impl.Resp{Status: math.MaxInt, Fields: make([]impl.Field, 1000)}, T: math.MinInt}}
	for _, kind := range kinds {
		for _, a := range texts {
			for _, b := range texts {
				ban := impl.Ban{Kind: kind, A: a, B: b, T: 7}
				checkBanOk(t, ban, banOkByHand(ban))
				for _, o := range objs {
					checkHits(t, ban, o, hitsByHand(ban, o))
				}
			}
		}
	}
}
