package tests

import (
	"math"
	"regexp"
	"slices"
	"strings"
	"testing"

	"loop.example/g00239/impl"
)

var tokenForm = regexp.MustCompile(`^[a-z0-9-]{1,20}$`)

// asks and tells are messages that are right but for what the fields make of
// them.
func asks(words ...string) impl.Req {
	return impl.Req{Method: impl.MtGet, Path: "/a", Fields: fieldsOf(words...)}
}

func tells(words ...string) impl.Resp {
	return impl.Resp{Status: 200, Fields: fieldsOf(words...), Body: "b"}
}

func mayKeepByHand(q impl.Req, r impl.Resp) bool {
	asked, told, names := controlByHand(q.Fields), controlByHand(r.Fields), varyByHand(r.Fields)
	for _, name := range names {
		if !tokenForm.MatchString(name) {
			return false
		}
	}
	return impl.ReqOk(q) && impl.RespOk(r) && q.Method == 1 && r.Status == 200 && len(names) <= 4 &&
		!asked.NoStore && !told.NoStore && !told.Private && told.HasAge
}

func askByHand(q impl.Req, list []impl.Field) impl.Req {
	if at := indexOfName(list, "etag"); at >= 0 {
		with := q
		with.Fields = putByHand(q.Fields, "if-none-match", list[at].Value)
		if impl.ReqOk(with) {
			return with
		}
	}
	q.Fields = dropByHand(q.Fields, "if-none-match")
	return q
}

func mergeByHand(a, b impl.Resp) impl.Resp {
	merged := a
	for _, f := range b.Fields {
		merged.Fields = putByHand(merged.Fields, f.Name, f.Value)
	}
	if !impl.RespOk(merged) {
		return a
	}
	return merged
}

func sameByHand(q impl.Req, list []impl.Field) bool {
	asked, told := indexOfName(q.Fields, "if-none-match"), indexOfName(list, "etag")
	return asked >= 0 && told >= 0 && q.Fields[asked].Value == list[told].Value
}

func shortByHand(r impl.Resp) impl.Resp {
	short := impl.Resp{Status: 304}
	for _, f := range r.Fields {
		if f.Name == "etag" || f.Name == "vary" || f.Name == "cache-control" {
			short.Fields = append(short.Fields, f)
		}
	}
	return short
}

func checkMayKeep(t *testing.T, q impl.Req, r impl.Resp, want bool) {
	t.Helper()
	if got := impl.MayKeep(q, r); got != want {
		t.Fatalf("MayKeep(%#v, %#v) = %v", q, r, got)
	}
}

func checkAsk(t *testing.T, q impl.Req, list []impl.Field, want impl.Req) {
	t.Helper()
	if got := impl.Ask(q, list); !sameReq(got, want) {
		t.Fatalf("Ask(%#v, %q) = %#v, not %#v", q, list, got, want)
	}
}

func checkMerge(t *testing.T, a, b, want impl.Resp) {
	t.Helper()
	if got := impl.Merge(a, b); !sameResp(got, want) {
		t.Fatalf("Merge(%#v, %#v) = %#v, not %#v", a, b, got, want)
	}
}

func checkSame(t *testing.T, q impl.Req, list []impl.Field, want bool) {
	t.Helper()
	if got := impl.Same(q, list); got != want {
		t.Fatalf("Same(%#v, %q) = %v", q, list, got)
	}
}

func checkShort(t *testing.T, r, want impl.Resp) {
	t.Helper()
	if got := impl.Short(r); !sameResp(got, want) {
		t.Fatalf("Short(%#v) = %#v, not %#v", r, got, want)
	}
}

// storeLists tells lists of which many are not right, and many say what this
// chapter asks for.
func storeLists() [][]impl.Field {
	lists := append(rightLists(),
		fieldsOf("a", "1", "etag", "v", "b", "2", "vary", "lang", "cache-control", "max-age=5"),
		append(manyFields(impl.MaxFields-1), fieldsOf("if-none-match", "w")...),
		append(fieldsOf("if-none-match", "w"), manyFields(impl.MaxFields-1)...),
		append(manyFields(impl.MaxFields-1), fieldsOf("etag", "w")...),
		append(manyFields(impl.MaxFields), fieldsOf("etag", "w")...),
		append(manyFields(impl.MaxFields), fieldsOf("if-none-match", "w")...),
		manyFields(impl.MaxFields+1), fieldsOf("content-length", "1"), fieldsOf("A", "x", "b", ""), fieldsOf("\xff", "\xfe", "etag", "\xfe"),
		fieldsOf("etag", strings.Repeat("t", impl.MaxText)), fieldsOf("etag", strings.Repeat("t", impl.MaxText+1)),
	)
	return append(lists, fieldLists([]string{"etag", "if-none-match", "Etag", "vary", "a"}, []string{"v", "V", ""}, 2)...)
}

func TestMayKeep(t *testing.T) {
	for _, q := range []impl.Req{
		asks(), asks("lang", "de"), {Method: impl.MtGet, Path: "/", Body: "x"}, {Method: impl.MtGet, Path: "/" + strings.Repeat("a", 59), Fields: manyFields(8), Body: strings.Repeat("x", 120)},
		asks("cache-control", "no-cache"), asks("cache-control", "max-age=0"), asks("cache-control", "must-revalidate"), asks("vary", "*"), asks("if-none-match", "v"), asks("etag", "v"),
	} {
		for _, r := range []impl.Resp{
			tells("cache-control", "max-age=5"), tells("cache-control", "max-age=5", "etag", "v1"), tells("cache-control", "max-age=0"), tells("cache-control", "max-age=1000000"), tells("cache-control", "max-age=x"), tells("cache-control", "max-age="),
			tells("cache-control", "no-cache, max-age=5"), tells("cache-control", "must-revalidate,max-age=5"), tells("a", "1", "cache-control", "x, max-age=5", "vary", "lang"), tells("age", "70", "cache-control", "max-age=5"), tells("age", "x", "cache-control", "max-age=5"),
			{Status: 200, Fields: fieldsOf("cache-control", "max-age=5")}, {Status: 200, Fields: append(manyFields(7), fieldsOf("cache-control", "max-age=5")...), Body: strings.Repeat("\xff", 120)},
		} {
			checkMayKeep(t, q, r, true)
		}
	}
	for _, r := range []impl.Resp{{}, {Status: 200}, tells(), tells("etag", "v1"), tells("cache-control", "no-cache"), tells("a", "max-age=5"), tells("max-age", "5"), tells("cache-control", "max-age"), tells("cache-control", "max-age =5"), tells("cache-control", "xmax-age=5"), tells("age", "5"), tells("vary", "lang")} {
		checkMayKeep(t, asks(), r, false)
		checkMayKeep(t, asks("cache-control", "max-age=5"), r, false)
	}
}

func TestMayKeepOnlyOfAGet(t *testing.T) {
	r := tells("cache-control", "max-age=5")
	for _, method := range []int{math.MinInt, -1, 0, 1, 2, 3, 4, 5, 1<<8 + 1, 1<<32 + 1, math.MaxInt} {
		for _, list := range [][]impl.Field{nil, fieldsOf("lang", "de")} {
			checkMayKeep(t, impl.Req{Method: method, Path: "/a", Fields: list}, r, method == impl.MtGet)
		}
	}
}

func TestMayKeepOnlyOfStatus200(t *testing.T) {
	for status := -700; status <= 1200; status++ {
		checkMayKeep(t, asks(), impl.Resp{Status: status, Fields: fieldsOf("cache-control", "max-age=5"), Body: "b"}, status == 200)
	}
	for _, status := range []int{math.MinInt, 1<<8 + 200, 1<<16 + 200, 1<<32 + 200, math.MaxInt} {
		checkMayKeep(t, asks(), impl.Resp{Status: status, Fields: fieldsOf("cache-control", "max-age=5")}, false)
	}
}

func TestMayKeepOnlyForRightRequests(t *testing.T) {
	r := tells("cache-control", "max-age=5", "vary", "a")
	for _, q := range wrongReqs() {
		checkMayKeep(t, q, r, false)
	}
	for _, q := range rightReqs() {
		checkMayKeep(t, q, r, q.Method == impl.MtGet)
	}
}

func TestMayKeepOnlyRightAnswers(t *testing.T) {
	for _, list := range append(oddLists(), messageLists()...) {
		// The life stands ahead of what is wrong, so that it is there anyhow.
		fields := append(fieldsOf("cache-control", "max-age=5"), list...)
		checkMayKeep(t, asks(), impl.Resp{Status: 200, Fields: fields}, impl.FieldsOk(fields))
	}
	for n := range 3 * impl.MaxBody {
		checkMayKeep(t, asks(), impl.Resp{Status: 200, Fields: fieldsOf("cache-control", "max-age=5"), Body: strings.Repeat("x", n)}, n <= 120)
	}
	for n := range 20 {
		checkMayKeep(t, asks(), impl.Resp{Status: 200, Fields: append(fieldsOf("cache-control", "max-age=5"), manyFields(n)...)}, n <= 7)
	}
	checkMayKeep(t, asks(), tells("cache-control", "max-age=5", "cache-control", "max-age=5"), false)
	checkMayKeep(t, asks(), tells("cache-control", "max-age=5 "), false)
	checkMayKeep(t, asks(), tells("cache-control", "max-age=5,"+strings.Repeat("x", 50)), true)
	checkMayKeep(t, asks(), tells("cache-control", "max-age=5,"+strings.Repeat("x", 51)), false)
}

func TestMayKeepWhereNobodySaysNo(t *testing.T) {
	for _, c := range []struct {
		asked, told string
		want        bool
	}{
		{"x", "max-age=5", true}, {"no-store", "max-age=5", false}, {"x", "no-store, max-age=5", false}, {"no-store", "no-store, max-age=5", false}, {"x", "max-age=5, no-store", false},
		{"private", "max-age=5", true}, {"x", "private, max-age=5", false}, {"private", "private, max-age=5", false}, {"x", "max-age=5,private", false}, {"private, no-store", "max-age=5", false},
		{"max-age=5", "x", false}, {"max-age=5", "no-cache", false}, {"max-age=5", "max-age=5", true}, {"x", "max-age=x", true}, {"max-age=0", "max-age=9", true}, {"no-cache", "no-cache, max-age=5", true}, {"must-revalidate", "must-revalidate, max-age=5", true},
		{"NO-STORE", "max-age=5", false}, {"x", "No-Store, max-age=5", false}, {"PRIVATE", "max-age=5", true}, {"x", "Private, max-age=5", false}, {"x", "PRIVATE,MAX-AGE=5", false}, {"x", "Max-Age=5", true}, {"x", "MAX-AGE=X", true}, {"No-Cache", "NO-CACHE, MAX-AGE=5", true},
		{"no-stor", "max-age=5", true}, {"no-store=1", "max-age=5", true}, {"no store", "max-age=5", true}, {"x", "no-stores, privat, max-age=5", true}, {"x", "private=a, max-age=5", true}, {"a,,no-store", "max-age=5", false}, {"a no-store", "max-age=5", true},
	} {
		checkMayKeep(t, asks("cache-control", c.asked), tells("cache-control", c.told), c.want)
		checkMayKeep(t, asks("lang", "de", "cache-control", c.asked), tells("etag", "v", "cache-control", c.told, "vary", "lang"), c.want)
	}
}

// wordSets tells every set of words that says something of keeping, small and
// great.
func wordSets() [][]string {
	var sets [][]string
	for _, words := range [][]string{{"no-store", "no-cache", "private", "max-age=5"}, {"MUST-REVALIDATE", "No-Store", "Private", "MAX-AGE=0"}} {
		for bits := range 1 << len(words) {
			set := []string{"x"}
			for i, word := range words {
				if bits>>i&1 == 1 {
					set = append(set, word)
				}
			}
			sets = append(sets, set)
		}
	}
	return sets
}

func says(set []string, start string) bool {
	return slices.ContainsFunc(set, func(word string) bool { return strings.HasPrefix(strings.ToLower(word), start) })
}

func TestMayKeepOfAllWords(t *testing.T) {
	for _, asked := range wordSets() {
		for _, told := range wordSets() {
			want := !says(asked, "no-store") && !says(told, "no-store") && !says(told, "private") && says(told, "max-age=")
			checkMayKeep(t, asks("cache-control", strings.Join(asked, ", ")), tells("cache-control", strings.Join(told, ",")), want)
		}
	}
}

func TestMayKeepByWhatItHangsOn(t *testing.T) {
	long, longer := strings.Repeat("a", 20), strings.Repeat("a", 21)
	for value, want := range map[string]bool{
		"lang": true, "a,b": true, "a, b, c": true, "a,b,c,d": true, "a,b,c,d,e": false, "a, b , c ,d,e": false, "a,b,c,d,e,f": false, "a,a,a,a": true, "a,a,a,a,a": false, ",,a,,b, ,c,,d,,": true, ",,a,,b, ,c,,d,,e": false,
		"*": false, "*,a": false, "a,*": false, "a, * ,b": false, "a,b,c,*": false, "**": false, "*a": false, "a*": false, "-": true, "a,b,-,0": true,
		",": true, ",,,": true, ", ,": true, ",,,,,,,": true, "a,": true, ",a": true,
		"Lang": true, "LANG, Kind": true, "A,B,C,D": true, "A,B,C,D,E": false, long: true, longer: false, strings.ToUpper(long): true, strings.ToUpper(longer): false, "a," + long + ",b": true, "a," + longer + ",b": false, "a,b,c," + longer: false,
		"a b": false, "a  b": false, "a_b": false, "a;b": false, "a:b": false, "a.b": false, "a=b": false, "\"a\"": false, "a/b": false, "a,b c,d": false, "a,b,c,d_": false, "_,a": false, "0-9": true, "vary": true, "content-length": true,
	} {
		checkMayKeep(t, asks(), tells("cache-control", "max-age=5", "vary", value), want)
		checkMayKeep(t, asks("lang", "de"), tells("vary", value, "a", "b", "cache-control", "max-age=5"), want)
		// What who asks says of it is nothing.
		checkMayKeep(t, asks("vary", value), tells("cache-control", "max-age=5"), true)
	}
}

func TestMayKeepOfAllVaryValues(t *testing.T) {
	for _, value := range append(textsOf([]string{"a", "B", ",", " ", "*"}, 6), textsOf([]string{"a,", "_,", "C", ",,"}, 6)...) {
		q, r := asks("a", "1"), tells("cache-control", "max-age=5", "vary", value)
		checkMayKeep(t, q, r, mayKeepByHand(q, r))
	}
}

func TestMayKeepOfAnyBytes(t *testing.T) {
	life := []string{"cache-control", "max-age=5"}
	for _, s := range oddTexts() {
		for _, q := range []impl.Req{asks("cache-control", s), asks("a", s), asks(s, "a"), {Method: impl.MtGet, Path: "/" + s}, {Method: impl.MtGet, Path: s}, {Method: impl.MtGet, Path: "/", Body: s}} {
			checkMayKeep(t, q, tells(life...), mayKeepByHand(q, tells(life...)))
		}
		for _, r := range []impl.Resp{tells("cache-control", "max-age=5,"+s), tells("cache-control", "max-age="+s), tells("cache-control", s), tells(append(life, "vary", s)...), tells(append(life, "vary", "a,"+s+",b")...), tells(append(life, s, "a")...), tells(append(life, "a", s)...), {Status: 200, Fields: fieldsOf(life...), Body: s}} {
			checkMayKeep(t, asks("a", "1"), r, mayKeepByHand(asks("a", "1"), r))
		}
	}
}

func TestAsk(t *testing.T) {
	for _, c := range []struct {
		asked, told, want []impl.Field
	}{
		{nil, nil, nil}, {nil, fieldsOf("a", "1"), nil}, {fieldsOf("lang", "de"), nil, fieldsOf("lang", "de")}, {fieldsOf("lang", "de"), fieldsOf("a", "1"), fieldsOf("lang", "de")},
		{nil, fieldsOf("etag", "v1"), fieldsOf("if-none-match", "v1")}, {fieldsOf("lang", "de"), fieldsOf("cache-control", "max-age=5", "etag", "v1", "vary", "lang"), fieldsOf("lang", "de", "if-none-match", "v1")},
		{fieldsOf("etag", "v0"), fieldsOf("etag", "v1"), fieldsOf("etag", "v0", "if-none-match", "v1")}, {fieldsOf("etag", "v0"), nil, fieldsOf("etag", "v0")}, {nil, fieldsOf("if-none-match", "v1"), nil},
		{fieldsOf("if-none-match", "old"), fieldsOf("etag", "v1"), fieldsOf("if-none-match", "v1")}, {fieldsOf("if-none-match", "old"), nil, nil}, {fieldsOf("if-none-match", "old"), fieldsOf("a", "1", "if-none-match", "v1"), nil}, {fieldsOf("if-none-match", "v1"), fieldsOf("etag", "v1"), fieldsOf("if-none-match", "v1")},
		{fieldsOf("a", "1", "if-none-match", "old", "b", "2"), fieldsOf("etag", "v1"), fieldsOf("a", "1", "if-none-match", "v1", "b", "2")}, {fieldsOf("a", "1", "if-none-match", "old", "b", "2"), fieldsOf("b", "1"), fieldsOf("a", "1", "b", "2")},
		{fieldsOf("if-none-match", "old", "a", "1"), fieldsOf("etag", ""), fieldsOf("a", "1")}, {fieldsOf("a", "1"), fieldsOf("etag", ""), fieldsOf("a", "1")}, {nil, fieldsOf("etag", "", "etag", "v1"), nil}, {nil, fieldsOf("etag", "v1", "etag", "v2"), fieldsOf("if-none-match", "v1")}, {nil, fieldsOf("etag", "v1", "etag", ""), fieldsOf("if-none-match", "v1")},
		{nil, fieldsOf("Etag", "v1"), nil}, {nil, fieldsOf("ETAG", "v1", "etag", "v2"), fieldsOf("if-none-match", "v2")}, {nil, fieldsOf("etag", "V1 \"W/x\""), fieldsOf("if-none-match", "V1 \"W/x\"")}, {nil, fieldsOf("etag", "*"), fieldsOf("if-none-match", "*")}, {nil, fieldsOf("etag", "-"), fieldsOf("if-none-match", "-")},
		{nil, fieldsOf("\xff", "\xff", "etag", "v1", "", "", "A", "\r\n"), fieldsOf("if-none-match", "v1")}, {nil, append(manyFields(90), fieldsOf("etag", "v1")...), fieldsOf("if-none-match", "v1")}, {nil, fieldsOf("content-length", "7", "etag", "v1"), fieldsOf("if-none-match", "v1")},
		{nil, fieldsOf("etag", " v1"), nil}, {nil, fieldsOf("etag", "v1 "), nil}, {nil, fieldsOf("etag", "v\r\n"), nil}, {nil, fieldsOf("etag", "\xff"), nil}, {nil, fieldsOf("etag", "\u00e4"), nil}, {fieldsOf("if-none-match", "old", "a", "1"), fieldsOf("etag", "\x00"), fieldsOf("a", "1")},
	} {
		for _, method := range []int{impl.MtGet, impl.MtHead, impl.MtPost, impl.MtPurge} {
			for _, body := range []string{"", "x\r\n"} {
				q, want := impl.Req{Method: method, Path: "/a?b", Fields: c.asked, Body: body}, impl.Req{Method: method, Path: "/a?b", Fields: c.want, Body: body}
				checkAsk(t, q, c.told, want)
			}
		}
	}
}

func TestAskWhereThereIsNoRoom(t *testing.T) {
	for n := range 12 {
		q, asked := asks(), asks()
		q.Fields, asked.Fields = manyFields(n), manyFields(n)
		if n < impl.MaxFields {
			asked.Fields = append(asked.Fields, fieldsOf("if-none-match", "v1")...)
		}
		checkAsk(t, q, fieldsOf("etag", "v1"), asked)
		// In the place of another there is room where there was.
		q.Fields, asked.Fields = append(manyFields(n), fieldsOf("if-none-match", "old")...), append(manyFields(n), fieldsOf("if-none-match", "v1")...)
		if n >= impl.MaxFields {
			asked.Fields = manyFields(n)
		}
		checkAsk(t, q, fieldsOf("etag", "v1"), asked)
	}
	for n := range 3 * impl.MaxText {
		tag := strings.Repeat("t", n)
		want, wantPut := asks("a", "1"), asks("a", "1", "b", "2")
		if 1 <= n && n <= impl.MaxText {
			want, wantPut = asks("a", "1", "if-none-match", tag), asks("a", "1", "if-none-match", tag, "b", "2")
		}
		checkAsk(t, asks("a", "1"), fieldsOf("etag", tag), want)
		checkAsk(t, asks("a", "1", "if-none-match", "old", "b", "2"), fieldsOf("etag", tag), wantPut)
	}
}

func TestAskOfWrongRequests(t *testing.T) {
	for _, q := range wrongReqs() {
		for _, list := range [][]impl.Field{nil, fieldsOf("a", "1"), fieldsOf("etag", "v1"), fieldsOf("etag", "")} {
			checkAsk(t, q, list, q)
			matching := q
			matching.Fields = append(fieldsOf("if-none-match", "old"), q.Fields...)
			checkAsk(t, matching, list, q)
		}
	}
	// Only what it would be with the tag counts.
	checkAsk(t, asks("if-none-match", ""), fieldsOf("etag", "v1"), asks("if-none-match", "v1"))
	checkAsk(t, asks("a", "1", "if-none-match", "\xff"), fieldsOf("etag", "v1"), asks("a", "1", "if-none-match", "v1"))
	checkAsk(t, asks("if-none-match", "", "A", "1"), fieldsOf("etag", "v1"), asks("A", "1"))
	checkAsk(t, asks("If-None-Match", "old"), fieldsOf("etag", "v1"), asks("If-None-Match", "old"))
	checkAsk(t, asks("a", "1", "a", "2"), fieldsOf("etag", "v1"), asks("a", "1", "a", "2"))
	// As put and dropped fields are: of two of one name the first.
	checkAsk(t, asks("if-none-match", "x", "a", "1", "if-none-match", "y"), fieldsOf("etag", "v1"), asks("a", "1", "if-none-match", "y"))
	checkAsk(t, asks("if-none-match", "x", "if-none-match", "y"), nil, asks("if-none-match", "y"))
	checkAsk(t, impl.Req{}, fieldsOf("etag", "v1"), impl.Req{})
	checkAsk(t, impl.Req{}, nil, impl.Req{})
}

func TestAskOfAllLists(t *testing.T) {
	for _, asked := range storeLists() {
		for _, told := range storeLists() {
			q := impl.Req{Method: impl.MtGet, Path: "/a", Fields: asked, Body: "b"}
			want := askByHand(q, told)
			checkAsk(t, q, told, want)
			if impl.ReqOk(q) && !impl.ReqOk(want) {
				t.Fatalf("Ask(%#v, %q) is not right any more", q, told)
			}
		}
	}
}

func TestAskOfAnyBytes(t *testing.T) {
	for _, s := range oddTexts() {
		for _, q := range []impl.Req{asks(), asks("if-none-match", s), asks(s, "a", "if-none-match", "b"), {Method: impl.MtPost, Path: s}, {Method: impl.MtPost, Path: "/", Body: s}} {
			for _, list := range [][]impl.Field{nil, fieldsOf("etag", s), fieldsOf(s, "a", "etag", "v1"), fieldsOf("etag"+s, "a")} {
				checkAsk(t, q, list, askByHand(q, list))
			}
		}
	}
}

func TestMerge(t *testing.T) {
	for _, c := range []struct {
		a, b, want []impl.Field
	}{
		{nil, nil, nil}, {fieldsOf("a", "1"), nil, fieldsOf("a", "1")}, {nil, fieldsOf("a", "1"), fieldsOf("a", "1")}, {fieldsOf("a", "1"), []impl.Field{}, fieldsOf("a", "1")},
		{fieldsOf("a", "1"), fieldsOf("a", "2"), fieldsOf("a", "2")}, {fieldsOf("a", "1"), fieldsOf("b", "2"), fieldsOf("a", "1", "b", "2")}, {fieldsOf("b", "1"), fieldsOf("a", "2"), fieldsOf("b", "1", "a", "2")},
		{fieldsOf("a", "1", "b", "2", "c", "3"), fieldsOf("b", "9"), fieldsOf("a", "1", "b", "9", "c", "3")}, {fieldsOf("a", "1", "b", "2", "c", "3"), fieldsOf("c", "9", "a", "8"), fieldsOf("a", "8", "b", "2", "c", "9")},
		{fieldsOf("a", "1", "b", "2"), fieldsOf("d", "9", "b", "8", "c", "7"), fieldsOf("a", "1", "b", "8", "d", "9", "c", "7")}, {fieldsOf("cache-control", "max-age=5", "etag", "v1"), fieldsOf("cache-control", "max-age=9", "x-a", "1"), fieldsOf("cache-control", "max-age=9", "etag", "v1", "x-a", "1")},
		{fieldsOf("a", "1"), fieldsOf("a", "2", "a", "3"), fieldsOf("a", "3")}, {nil, fieldsOf("a", "2", "a", "3"), fieldsOf("a", "3")}, {nil, fieldsOf("a", "2", "b", "3", "a", "4"), fieldsOf("a", "4", "b", "3")}, {fieldsOf("a", "1"), fieldsOf("a", "", "a", "3"), fieldsOf("a", "3")},
		{fieldsOf("a", "1"), fieldsOf("a", "2", "a", ""), fieldsOf("a", "1")}, {fieldsOf("a", "1"), fieldsOf("a", ""), fieldsOf("a", "1")}, {fieldsOf("a", "1"), fieldsOf("b", ""), fieldsOf("a", "1")}, {fieldsOf("a", "1"), fieldsOf("a", "2", "b", ""), fieldsOf("a", "1")}, {fieldsOf("a", "1"), fieldsOf("b", "", "a", "2"), fieldsOf("a", "1")},
		{fieldsOf("a", "1"), fieldsOf("a", "2", "A", "3"), fieldsOf("a", "1")}, {fieldsOf("a", "1"), fieldsOf("", "2"), fieldsOf("a", "1")}, {fieldsOf("a", "1"), fieldsOf("b c", "2"), fieldsOf("a", "1")}, {fieldsOf("a", "1"), fieldsOf("content-length", "2"), fieldsOf("a", "1")}, {fieldsOf("a", "1"), fieldsOf("a", "2", "content-length", "2"), fieldsOf("a", "1")},
		{fieldsOf("a", "1"), fieldsOf("a", " 2"), fieldsOf("a", "1")}, {fieldsOf("a", "1"), fieldsOf("a", "\xff"), fieldsOf("a", "1")}, {fieldsOf("a", "1"), fieldsOf("\xff", "2"), fieldsOf("a", "1")}, {fieldsOf("a", "1"), fieldsOf(strings.Repeat("b", 21), "2"), fieldsOf("a", "1")}, {fieldsOf("a", "1"), fieldsOf(strings.Repeat("b", 20), "2"), fieldsOf("a", "1", strings.Repeat("b", 20), "2")},
		{fieldsOf("a", "1"), manyFields(7), append(fieldsOf("a", "1"), manyFields(7)...)}, {fieldsOf("a", "1"), manyFields(8), fieldsOf("a", "1")}, {manyFields(8), manyFields(8), manyFields(8)}, {manyFields(8), fieldsOf("n7", "x"), append(manyFields(7), fieldsOf("n7", "x")...)}, {manyFields(8), fieldsOf("n8", "x"), manyFields(8)}, {manyFields(8), fieldsOf("n0", "x", "n8", "y"), manyFields(8)}, {manyFields(5), manyFields(8), manyFields(8)}, {nil, manyFields(9), nil}, {nil, manyFields(3000), nil},
		{nil, slices.Repeat(fieldsOf("a", "1", "b", "2"), 2000), fieldsOf("a", "1", "b", "2")},
	} {
		for _, status := range []int{100, 200, 304, 599} {
			for _, b := range []impl.Resp{{Fields: c.b}, {Status: 304, Fields: c.b}, {Status: 200, Fields: c.b, Body: "other"}, {Status: -1, Fields: c.b, Body: strings.Repeat("x", 500)}} {
				for _, body := range []string{"", "b", strings.Repeat("\xff", 120)} {
					checkMerge(t, impl.Resp{Status: status, Fields: c.a, Body: body}, b, impl.Resp{Status: status, Fields: c.want, Body: body})
				}
			}
		}
	}
}

func TestMergeOfValuesUpToTheLimit(t *testing.T) {
	for n := range 3 * impl.MaxText {
		value := strings.Repeat("x", n)
		want, wantBehind := tells("a", "1", "b", "2"), tells("a", "1", "b", "2")
		if 1 <= n && n <= impl.MaxText {
			want, wantBehind = tells("a", value, "b", "2"), tells("a", "1", "b", "2", "c", value)
		}
		checkMerge(t, tells("a", "1", "b", "2"), tells("a", value), want)
		checkMerge(t, tells("a", "1", "b", "2"), tells("c", value), wantBehind)
	}
}

func TestMergeOfWrongAnswers(t *testing.T) {
	for _, a := range wrongResps() {
		for _, b := range []impl.Resp{{}, {Status: 304}, {Status: 304, Fields: fieldsOf("x-new", "1")}, {Status: 304, Fields: fieldsOf("\xff", "1")}} {
			checkMerge(t, a, b, a)
		}
	}
	// Only what it would be with the fields of the other counts.
	checkMerge(t, tells("a", "", "b", "2"), tells("a", "1"), tells("a", "1", "b", "2"))
	checkMerge(t, tells("a", "", "b", ""), tells("a", "1"), tells("a", "", "b", ""))
	checkMerge(t, tells("a", "", "b", ""), tells("b", "2", "a", "1"), tells("a", "1", "b", "2"))
	checkMerge(t, tells("A", "1"), tells("a", "1"), tells("A", "1"))
	checkMerge(t, tells("a", "1", "a", "2"), tells("a", "3"), tells("a", "1", "a", "2"))
	checkMerge(t, impl.Resp{}, tells("a", "1"), impl.Resp{})
	long := impl.Resp{Status: 200, Fields: fieldsOf("a", "1"), Body: strings.Repeat("x", 121)}
	checkMerge(t, long, tells("a", "2"), long)
}

func TestMergeOfAllLists(t *testing.T) {
	for _, was := range storeLists() {
		for _, put := range storeLists() {
			a, b := impl.Resp{Status: 200, Fields: was, Body: "kept"}, impl.Resp{Status: 304, Fields: put, Body: "new"}
			want := mergeByHand(a, b)
			checkMerge(t, a, b, want)
			if impl.RespOk(a) && !impl.RespOk(want) {
				t.Fatalf("Merge(%#v, %#v) is not right any more", a, b)
			}
		}
	}
}

func TestMergeOfAnyBytes(t *testing.T) {
	for _, s := range oddTexts() {
		for _, a := range []impl.Resp{tells(), tells("a", s), tells(s, "a"), {Status: 200, Fields: fieldsOf("a", "1"), Body: s}} {
			for _, b := range []impl.Resp{tells("a", s), tells(s, "b"), tells("a", "2", s, "b"), {Status: 304, Fields: fieldsOf("a", "2"), Body: s}} {
				checkMerge(t, a, b, mergeByHand(a, b))
			}
		}
	}
}

func TestSame(t *testing.T) {
	for _, c := range []struct {
		asked, told []impl.Field
		want        bool
	}{
		{nil, nil, false}, {fieldsOf("if-none-match", "v1"), nil, false}, {nil, fieldsOf("etag", "v1"), false}, {fieldsOf("if-none-match", ""), nil, false}, {nil, fieldsOf("etag", ""), false}, {fieldsOf("if-none-match", ""), fieldsOf("etag", ""), true},
		{fieldsOf("if-none-match", "v1"), fieldsOf("etag", "v1"), true}, {fieldsOf("if-none-match", "v1"), fieldsOf("etag", "v2"), false}, {fieldsOf("if-none-match", "v1"), fieldsOf("etag", ""), false}, {fieldsOf("if-none-match", ""), fieldsOf("etag", "v1"), false}, {fieldsOf("if-none-match", "-"), nil, false}, {nil, fieldsOf("etag", "-"), false}, {fieldsOf("if-none-match", "-"), fieldsOf("etag", "-"), true},
		{fieldsOf("if-none-match", "v1"), fieldsOf("etag", "V1"), false}, {fieldsOf("if-none-match", "V1"), fieldsOf("etag", "v1"), false}, {fieldsOf("if-none-match", "V1"), fieldsOf("etag", "V1"), true}, {fieldsOf("if-none-match", "v1"), fieldsOf("etag", "v1 "), false}, {fieldsOf("if-none-match", "v1, v2"), fieldsOf("etag", "v1"), false}, {fieldsOf("if-none-match", "v"), fieldsOf("etag", "v1"), false}, {fieldsOf("if-none-match", "*"), fieldsOf("etag", "v1"), false}, {fieldsOf("if-none-match", "*"), fieldsOf("etag", "*"), true},
		{fieldsOf("If-None-Match", "v1"), fieldsOf("etag", "v1"), false}, {fieldsOf("if-none-match", "v1"), fieldsOf("Etag", "v1"), false}, {fieldsOf("etag", "v1"), fieldsOf("if-none-match", "v1"), false}, {fieldsOf("etag", "v1"), fieldsOf("etag", "v1"), false}, {fieldsOf("if-none-match", "v1"), fieldsOf("if-none-match", "v1"), false},
		{fieldsOf("a", "1", "if-none-match", "v1"), fieldsOf("b", "2", "c", "3", "etag", "v1"), true}, {fieldsOf("if-none-match", "v1", "if-none-match", "v2"), fieldsOf("etag", "v1"), true}, {fieldsOf("if-none-match", "v1", "if-none-match", "v2"), fieldsOf("etag", "v2"), false}, {fieldsOf("if-none-match", "v1"), fieldsOf("etag", "v2", "etag", "v1"), false}, {fieldsOf("if-none-match", "v1"), fieldsOf("etag", "v1", "etag", "v2"), true}, {fieldsOf("if-none-match", "\xff"), fieldsOf("etag", "\xff"), true}, {fieldsOf("if-none-match", "\xff"), fieldsOf("etag", "\xef\xbf\xbd"), false},
	} {
		// Whether the request is right otherwise is not asked for.
		for _, q := range []impl.Req{{Method: impl.MtGet, Path: "/a"}, {Method: impl.MtPost, Path: "/b", Body: "x"}, {}, {Method: -1, Path: "\xff", Body: strings.Repeat("x", 500)}} {
			q.Fields = c.asked
			checkSame(t, q, c.told, c.want)
		}
	}
}

func TestSameOfAllLists(t *testing.T) {
	for _, asked := range storeLists() {
		for _, told := range storeLists() {
			q := impl.Req{Method: impl.MtGet, Path: "/a", Fields: asked}
			checkSame(t, q, told, sameByHand(q, told))
		}
	}
}

func TestSameOfAnyBytes(t *testing.T) {
	for _, s := range oddTexts() {
		checkSame(t, asks("if-none-match", s), fieldsOf("etag", s), true)
		checkSame(t, asks("if-none-match", s), fieldsOf("etag", s+"\x00"), false)
		checkSame(t, asks("if-none-match", s+" "), fieldsOf("etag", s), false)
		checkSame(t, asks("if-none-match"+s, "v"), fieldsOf("etag", "v"), s == "")
		checkSame(t, asks("if-none-match", "v"), fieldsOf(s+"etag", "v"), s == "")
	}
}

func TestWhatWasAskedWithATagIsTheSame(t *testing.T) {
	for _, asked := range storeLists() {
		q := impl.Req{Method: impl.MtGet, Path: "/a", Fields: asked}
		if !impl.ReqOk(q) {
			continue
		}
		for _, told := range storeLists() {
			tag, tagged := impl.Get(told, "etag")
			room := len(asked) < impl.MaxFields || indexOfName(asked, "if-none-match") >= 0
			checkSame(t, impl.Ask(q, told), told, tagged && room && impl.ValueOk(tag))
		}
	}
}

func TestShort(t *testing.T) {
	for _, c := range []struct{ fields, want []impl.Field }{
		{nil, nil}, {[]impl.Field{}, nil}, {fieldsOf("a", "1"), nil}, {fieldsOf("etag", "v1"), fieldsOf("etag", "v1")}, {fieldsOf("vary", "lang"), fieldsOf("vary", "lang")}, {fieldsOf("cache-control", "max-age=5"), fieldsOf("cache-control", "max-age=5")},
		{fieldsOf("a", "1", "cache-control", "max-age=5", "b", "2", "vary", "lang", "c", "3", "etag", "v1", "d", "4"), fieldsOf("cache-control", "max-age=5", "vary", "lang", "etag", "v1")},
		{fieldsOf("Etag", "1", "VARY", "2", "Cache-Control", "3"), nil}, {fieldsOf("etags", "1", "var", "2", "cache-contro", "3", "age", "4", "if-none-match", "5", "content-length", "6", "", "7"), nil}, {fieldsOf("a", "etag", "b", "vary", "c", "cache-control"), nil},
		{fieldsOf("etag", "v1", "etag", "v2"), fieldsOf("etag", "v1", "etag", "v2")}, {fieldsOf("etag", "v1", "a", "1", "vary", "x", "etag", "v1"), fieldsOf("etag", "v1", "vary", "x", "etag", "v1")}, {fieldsOf("etag", "", "vary", "\xff", "cache-control", " "), fieldsOf("etag", "", "vary", "\xff", "cache-control", " ")},
		{append(manyFields(90), fieldsOf("vary", "a")...), fieldsOf("vary", "a")},
	} {
		for _, status := range []int{math.MinInt, -1, 0, 99, 100, 200, 304, 404, 599, 600, math.MaxInt} {
			for _, body := range []string{"", "b", "etag: v1\r\n", strings.Repeat("x", 120), strings.Repeat("\xff", 500)} {
				checkShort(t, impl.Resp{Status: status, Fields: c.fields, Body: body}, impl.Resp{Status: 304, Fields: c.want})
			}
		}
	}
	checkShort(t, impl.Resp{}, impl.Resp{Status: 304})
}

func TestShortInEveryOrder(t *testing.T) {
	for _, names := range textLists([]string{"etag", "vary", "cache-control", "a", "Etag"}, 5) {
		var list []impl.Field
		for i, name := range names {
			list = append(list, impl.Field{Name: name, Value: "v" + string(rune('0'+i))})
		}
		r := impl.Resp{Status: 200, Fields: list, Body: "b"}
		checkShort(t, r, shortByHand(r))
		if impl.RespOk(r) && !impl.RespOk(impl.Short(r)) {
			t.Fatalf("Short(%#v) is not right any more", r)
		}
	}
	for _, list := range append(allLists(), storeLists()...) {
		checkShort(t, impl.Resp{Status: 200, Fields: list}, shortByHand(impl.Resp{Status: 200, Fields: list}))
	}
}

func TestShortOfAnyBytes(t *testing.T) {
	for _, s := range oddTexts() {
		r := impl.Resp{Status: len(s), Fields: fieldsOf(s, "a", "etag", s, "vary"+s, "b", "cache-control", "c", s+"etag", s), Body: s}
		checkShort(t, r, shortByHand(r))
	}
}

func turnStoreAnswers(asked, told []impl.Field) {
	q, r := impl.Req{Method: impl.MtGet, Path: "/a", Fields: asked}, impl.Resp{Status: 200, Fields: told, Body: "b"}
	impl.MayKeep(q, r)
	impl.Same(q, told)
	turnAll(impl.Ask(q, told).Fields)
	turnAll(impl.Short(r).Fields)
	turnAll(impl.Merge(r, impl.Resp{Status: 304, Fields: asked}).Fields)
	turnAll(impl.Merge(impl.Resp{Status: 200, Fields: asked}, r).Fields)
}

func TestStoreWritesIntoNothing(t *testing.T) {
	for _, asked := range storeLists() {
		for _, told := range storeLists() {
			q, allAsked := withRoom(asked)
			r, allTold := withRoom(told)
			wasAsked, wasTold := slices.Clone(allAsked), slices.Clone(allTold)
			turnStoreAnswers(q, r)
			if !slices.Equal(allAsked, wasAsked) || !slices.Equal(allTold, wasTold) {
				t.Fatalf("%q or %q was written into, or its room: %q, %q", asked, told, allAsked, allTold)
			}
		}
	}
}

func TestStoreAnswersStay(t *testing.T) {
	for _, asked := range storeLists() {
		for _, told := range storeLists() {
			askedNow, allAsked := withRoom(asked)
			toldNow, allTold := withRoom(told)
			q, r := impl.Req{Method: impl.MtGet, Path: "/a", Fields: askedNow}, impl.Resp{Status: 200, Fields: toldNow, Body: "b"}
			merged, short, again := impl.Merge(r, impl.Resp{Fields: askedNow}), impl.Short(r), impl.Ask(q, toldNow)
			turnStoreAnswers(askedNow, toldNow)
			turnAll(allAsked)
			turnAll(allTold)
			turnStoreAnswers(askedNow, toldNow)
			q.Fields, r.Fields = asked, told
			if !sameReq(again, askByHand(q, told)) || !sameResp(merged, mergeByHand(r, impl.Resp{Fields: asked})) || !sameResp(short, shortByHand(r)) {
				t.Fatalf("the answers for %q and %q turned: %#v, %#v, %#v", asked, told, again, merged, short)
			}
		}
	}
}

func TestStoreTextsAreNewMemory(t *testing.T) {
	for _, value := range []string{"v1", "", "\xff"} {
		var arguments []string
		text := func(s string) string {
			arguments = append(arguments, strings.Clone(s))
			return arguments[len(arguments)-1]
		}
		q := impl.Req{Method: impl.MtGet, Path: text("/path"), Fields: fieldsOf(text("lang"), text("de"), text("if-none-match"), text("old")), Body: text("asked")}
		a := impl.Resp{Status: 200, Fields: fieldsOf(text("etag"), text(value), text("vary"), text("lang"), text("x"), text("y")), Body: text("told")}
		b := impl.Resp{Status: 304, Fields: fieldsOf(text("vary"), text(value), text("z"), text("new")), Body: text("other")}
		for _, again := range []impl.Req{impl.Ask(q, a.Fields), impl.Ask(q, nil)} {
			if sharesAny(append(again.Fields, fieldsOf(again.Path, again.Body)...), arguments...) {
				t.Errorf("the request %#v shares memory with an argument", again)
			}
		}
		for _, r := range []impl.Resp{impl.Merge(a, b), impl.Merge(b, a), impl.Short(a), impl.Short(b)} {
			if sharesAny(append(r.Fields, fieldsOf(r.Body, "")...), arguments...) {
				t.Errorf("the answer %#v shares memory with an argument", r)
			}
		}
	}
}

func keepingReqs() []impl.Req {
	all := []impl.Req{{}, {Method: impl.MtHead, Path: "/a"}, {Method: impl.MtPost, Path: "/a", Body: "x"}, {Method: impl.MtPurge, Path: "/a"}, {Method: impl.MtGet, Path: "a"}, {Method: impl.MtGet, Path: "/a", Body: strings.Repeat("x", 121)}, {Method: impl.MtGet, Path: "/a", Fields: manyFields(9)}, asks(), asks("vary", "*"), asks("cache-control", "")}
	for _, set := range wordSets() {
		all = append(all, asks("cache-control", strings.Join(set, ",")))
	}
	return all
}

func keepingResps() []impl.Resp {
	var all []impl.Resp
	for _, status := range []int{0, 199, 200, 201, 206, 304, 404, 600} {
		for _, vary := range []string{"lang", "*", "a,b,c,d", "a,b,c,d,e", "a b", ""} {
			for _, set := range wordSets() {
				list := fieldsOf("cache-control", strings.Join(set, ", "), "etag", "v1")
				all = append(all, impl.Resp{Status: status, Fields: list}, impl.Resp{Status: status, Fields: append(list, fieldsOf("vary", vary)...), Body: "b"})
			}
		}
	}
	return append(all, wrongResps()...)
}

func TestPromise9WhatMayBeKeptIsARightAnswerToARightGet(t *testing.T) {
	kept := 0
	for _, q := range keepingReqs() {
		for _, r := range keepingResps() {
			may := impl.MayKeep(q, r)
			if may != mayKeepByHand(q, r) {
				t.Fatalf("MayKeep(%#v, %#v) = %v", q, r, may)
			}
			if !may {
				continue
			}
			kept++
			asked, told := controlByHand(q.Fields), controlByHand(r.Fields)
			if !impl.ReqOk(q) || q.Method != impl.MtGet || !impl.RespOk(r) || r.Status != 200 || asked.NoStore || told.NoStore || told.Private {
				t.Fatalf("MayKeep(%#v, %#v) is true", q, r)
			}
		}
	}
	if kept == 0 {
		t.Error("nothing may be kept")
	}
}

func TestPromise9WhatIsMergedKeepsItsBody(t *testing.T) {
	for _, a := range append(keepingResps(), rightResps()...) {
		for _, b := range []impl.Resp{{}, {Status: 304}, {Status: 304, Body: "other"}, {Status: 304, Fields: fieldsOf("cache-control", "max-age=9", "x-a", "1"), Body: "other"}, {Status: 200, Fields: fieldsOf("content-length", "0")}, {Fields: manyFields(9), Body: strings.Repeat("x", 121)}} {
			if m := impl.Merge(a, b); m.Body != a.Body || m.Status != a.Status || impl.RespOk(a) && !impl.RespOk(m) {
				t.Fatalf("Merge(%#v, %#v) = %#v", a, b, m)
			}
		}
	}
	for _, s := range append(oddTexts(), rightBodies()...) {
		a := impl.Resp{Status: 200, Fields: fieldsOf("a", "1"), Body: s}
		for _, b := range []impl.Resp{{Status: 304, Fields: fieldsOf("a", "2")}, {Status: 304, Fields: fieldsOf("a", "")}, {Status: 304, Fields: fieldsOf("b", "2"), Body: "x" + s}} {
			if m := impl.Merge(a, b); m.Body != s {
				t.Fatalf("Merge(%#v, %#v) has the body %q", a, b, m.Body)
			}
		}
	}
}
