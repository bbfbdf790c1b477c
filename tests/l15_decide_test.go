package tests

import (
	"fmt"
	"math"
	"runtime"
	"slices"
	"strconv"
	"strings"
	"testing"

	"loop.example/g00239/impl"
)

func decideByHand(s impl.Shelf, q impl.Req, now int) (int, impl.Obj) {
	asked := controlByHand(q.Fields)
	if !impl.ReqOk(q) || q.Method != 1 || asked.NoStore {
		return 1, impl.Obj{}
	}
	o, found := findByHand(s, q)
	if !found {
		return 4, impl.Obj{}
	}
	if asked.NoCache || !freshByHand(o.Resp.Fields, o.T, now) {
		return 3, o
	}
	return 2, o
}

func answerByHand(q impl.Req, o impl.Obj, now int) impl.Resp {
	r := o.Resp
	if sameByHand(q, r.Fields) {
		r = shortByHand(r)
	}
	aged := r
	aged.Fields = putByHand(r.Fields, "age", strconv.Itoa(ageAtByHand(o.Resp.Fields, o.T, now)))
	if !impl.RespOk(aged) {
		return r
	}
	return aged
}

func alikeByHand(a, b impl.Req) bool {
	for _, q := range []impl.Req{a, b} {
		if !impl.ReqOk(q) || q.Method != 1 || controlByHand(q.Fields).NoStore {
			return false
		}
	}
	return a.Path == b.Path && fmt.Sprintf("%q", a.Fields) == fmt.Sprintf("%q", b.Fields)
}

func checkDecide(t *testing.T, s impl.Shelf, q impl.Req, now int) (int, impl.Obj) {
	t.Helper()
	want, wantObj := decideByHand(s, q, now)
	got, o := impl.Decide(s, q, now)
	if got != want || !sameObj(o, wantObj) {
		t.Fatalf("Decide(%#v, %#v, %d) = %d, %#v, not %d, %#v", s, q, now, got, o, want, wantObj)
	}
	return got, o
}

// checkDecided tells by when it came which object is told, -1 where there is
// none, without any model.
func checkDecided(t *testing.T, s impl.Shelf, q impl.Req, now, code, came int) {
	t.Helper()
	got, o := checkDecide(t, s, q, now)
	if got != code || came < 0 && !sameObj(o, impl.Obj{}) || came >= 0 && (o.T != came || o.Path != q.Path) {
		t.Fatalf("Decide(%#v, %#v, %d) = %d, %#v, not %d, and that of %d", s, q, now, got, o, code, came)
	}
}

func checkAnswer(t *testing.T, q impl.Req, o impl.Obj, now int) impl.Resp {
	t.Helper()
	got, want := impl.Answer(q, o, now), answerByHand(q, o, now)
	if !sameResp(got, want) {
		t.Fatalf("Answer(%#v, %#v, %d) = %#v, not %#v", q, o, now, got, want)
	}
	return got
}

func checkAnswered(t *testing.T, q impl.Req, o impl.Obj, now int, want impl.Resp) {
	t.Helper()
	if got := checkAnswer(t, q, o, now); !sameResp(got, want) {
		t.Fatalf("Answer(%#v, %#v, %d) = %#v, not %#v", q, o, now, got, want)
	}
}

func checkAlike(t *testing.T, a, b impl.Req, want bool) {
	t.Helper()
	if one, other := impl.Alike(a, b), impl.Alike(b, a); one != want || other != want || alikeByHand(a, b) != want {
		t.Fatalf("Alike(%#v, %#v) = %v, turned round %v, not %v", a, b, one, other, want)
	}
}

// fewOdd are odd texts, few enough for what takes longer.
func fewOdd() []string { return append(oddTexts()[:31], singleBytes()...) }

// keptAll is what there is when these were kept one behind the other, on a new
// shelf.
func keptAll(objs ...impl.Obj) impl.Shelf {
	s := impl.ShelfNew()
	for _, o := range objs {
		s, _ = impl.Keep(s, o)
	}
	return s
}

// saysIn is a GET of /a in German that says so of keeping.
func saysIn(control string) impl.Req { return asks("lang", "de", "cache-control", control) }

func TestDecideCodes(t *testing.T) {
	if impl.DcPass != 1 || impl.DcHit != 2 || impl.DcAgain != 3 || impl.DcMiss != 4 {
		t.Error("other codes are told", impl.DcPass, impl.DcHit, impl.DcAgain, impl.DcMiss)
	}
}

func TestDecide(t *testing.T) {
	s := keptAll(speaks("/a", "de", 3), speaks("/a", "en", 4), plain("/b", 5))
	for _, c := range []struct {
		q               impl.Req
		now, code, came int
	}{
		{asksIn("/a", "de"), 7, impl.DcHit, 3}, {asksIn("/a", "de"), 8, impl.DcAgain, 3}, {asksIn("/a", "en"), 8, impl.DcHit, 4}, {asksIn("/a", "en"), 9, impl.DcAgain, 4},
		{saysIn("no-cache"), 7, impl.DcAgain, 3}, {saysIn("no-cache"), 8, impl.DcAgain, 3}, {saysIn("no-store"), 7, impl.DcPass, -1}, {saysIn("no-store, no-cache"), 7, impl.DcPass, -1}, {saysIn("max-age=0"), 7, impl.DcHit, 3},
		{asks(), 7, impl.DcMiss, -1}, {asksIn("/a", "fr"), 7, impl.DcMiss, -1}, {asksIn("/c", "de"), 7, impl.DcMiss, -1}, {asksIn("/b", "de"), 7, impl.DcAgain, 5}, {impl.Req{Method: impl.MtGet, Path: "/b"}, 7, impl.DcAgain, 5},
		{impl.Req{Method: impl.MtPost, Path: "/b"}, 7, impl.DcPass, -1}, {impl.Req{}, 7, impl.DcPass, -1},
	} {
		checkDecided(t, s, c.q, c.now, c.code, c.came)
	}
}

// whoPass are requests for which nothing is looked up, though what is kept
// would suit most of them.
func whoPass() []impl.Req {
	all := append(wrongReqs(), impl.Req{Method: impl.MtGet, Path: "/a", Fields: fieldsOf("lang", "de", "x", "")}, impl.Req{Method: impl.MtGet, Path: "/a", Fields: fieldsOf("lang", "de", "lang", "de")}, impl.Req{Method: impl.MtGet, Path: "/a", Fields: append(fieldsOf("lang", "de"), manyFields(8)...)}, impl.Req{Method: impl.MtGet, Path: "/a", Fields: fieldsOf("lang", "de"), Body: strings.Repeat("x", 121)})
	for _, method := range []int{math.MinInt, -1, 0, impl.MtHead, impl.MtPost, impl.MtPurge, 5, math.MaxInt} {
		all = append(all, impl.Req{Method: method, Path: "/a", Fields: fieldsOf("lang", "de")}, impl.Req{Method: method, Path: "/b", Body: "x"})
	}
	for _, control := range []string{"no-store", "No-Store", "NO-STORE", "max-age=5, no-store", "no-store,no-cache", "no-cache,no-store", ",,no-store ,x", "x,no-store,no-store"} {
		all = append(all, saysIn(control), asks("cache-control", control, "lang", "de"), impl.Req{Method: impl.MtGet, Path: "/b", Fields: fieldsOf("cache-control", control)})
	}
	return all
}

func TestDecideWhoPasses(t *testing.T) {
	wide := keptAll(speaks("/a", "de", 3), plain("/a", 3), lies("/b", "cache-control", "max-age=9"))
	for _, s := range append(rightShelves(), wide, impl.ShelfNew(), impl.Shelf{}, wrongShelves()[9]) {
		for _, q := range whoPass() {
			for _, now := range []int{math.MinInt, 0, 3, 9, impl.MaxTime} {
				checkDecided(t, s, q, now, impl.DcPass, -1)
			}
		}
	}
	// Who says something else, or says it elsewhere, does not.
	s := keptAll(speaks("/a", "de", 3))
	for _, q := range []impl.Req{saysIn("no-stor"), saysIn("no-stores"), saysIn("no store"), saysIn("xno-store"), saysIn("no-store=1"), saysIn("no-store x"), saysIn("private"), saysIn("must-revalidate"), asks("lang", "de", "x", "no-store"), asks("lang", "de", "pragma", "no-cache"), {Method: impl.MtGet, Path: "/a", Fields: fieldsOf("lang", "de"), Body: "no-store"}, {Method: impl.MtGet, Path: "/a", Fields: append(fieldsOf("lang", "de"), manyFields(7)...), Body: strings.Repeat("x", 120)}} {
		checkDecided(t, s, q, 7, impl.DcHit, 3)
		checkDecided(t, s, q, 8, impl.DcAgain, 3)
		checkDecided(t, impl.ShelfNew(), q, 7, impl.DcMiss, -1)
	}
}

func TestDecideMiss(t *testing.T) {
	s := keptAll(speaks("/a", "de", 3))
	for _, path := range []string{"/", "/A", "/a/", "/b", "/aa"} {
		checkDecided(t, s, asksIn(path, "de"), 3, impl.DcMiss, -1)
	}
	for _, q := range []impl.Req{asks(), asksIn("/a", "-"), asksIn("/a", "De"), asksIn("/a", "d"), asksIn("/a", "de-x"), asks("l", "de"), asks("language", "de"), asks("cache-control", "no-cache")} {
		checkDecided(t, s, q, 3, impl.DcMiss, -1)
	}
	for _, b := range []impl.Ban{banPath("/a", 3), banBelow("/", 9), banField("etag", "v3", 3)} {
		hit := s
		hit.Bans = []impl.Ban{b}
		banned, _ := impl.Banish(s, b)
		for _, at := range []impl.Shelf{hit, banned, impl.Mount(impl.Crash(banned.Disk, nil))} {
			checkDecided(t, at, asksIn("/a", "de"), 3, impl.DcMiss, -1)
			checkDecided(t, at, saysIn("no-cache"), 3, impl.DcMiss, -1)
		}
	}
	late, _ := impl.Banish(s, banPath("/a", 2))
	checkDecided(t, late, asksIn("/a", "de"), 3, impl.DcHit, 3)
	lost := impl.Mount(impl.Crash(s.Disk, nil))
	checkDecided(t, lost, asksIn("/a", "de"), 3, impl.DcMiss, -1)
	for _, s := range wrongShelves() {
		for _, q := range []impl.Req{asks(), asksIn("/a", "de"), asksIn("/0", "de"), asksIn("/3", "de"), saysIn("no-cache")} {
			checkDecided(t, s, q, 10, impl.DcMiss, -1)
		}
	}
}

func TestDecideTheLastFreshMoment(t *testing.T) {
	for _, life := range []int{1, 2, 5, 60, 999999, impl.MaxTime} {
		for _, stated := range []int{-1, 0, 1, 4, 999998, 999999, impl.MaxTime} {
			for _, came := range []int{0, 1, 7, 500000, impl.MaxTime} {
				o := lies("/a", "cache-control", fmt.Sprintf("max-age=%d", life))
				if stated >= 0 {
					o.Resp.Fields = append(o.Resp.Fields, impl.Field{Name: "age", Value: strconv.Itoa(stated)})
				}
				o.T = came
				s := keptAll(o)
				last := came + life - max(stated, 0) - 1
				for now, code := range map[int]int{last - 1: impl.DcHit, last: impl.DcHit, last + 1: impl.DcAgain, last + 2: impl.DcAgain, math.MaxInt: impl.DcAgain, math.MinInt: impl.DcHit} {
					// Ahead of when it came it is no younger than then.
					if now < came && life <= max(stated, 0) {
						code = impl.DcAgain
					}
					checkDecided(t, s, asks(), now, code, came)
				}
			}
		}
	}
}

func TestDecideWhatIsNeverFresh(t *testing.T) {
	for _, words := range [][]string{
		nil, {"cache-control", "max-age=0"}, {"cache-control", "max-age=x"}, {"cache-control", "max-age=05"}, {"cache-control", "max-age=1000001"}, {"cache-control", "no-cache, max-age=9"}, {"cache-control", "max-age=9,No-Cache"}, {"cache-control", "max-age=9, max-age=0"}, {"cache-control", "private"},
		{"cache-control", "max-age=9", "age", "9"}, {"cache-control", "max-age=9", "age", "x"}, {"cache-control", "max-age=9", "age", "05"}, {"cache-control", "max-age=1000000", "age", "1000001"}, {"x", "max-age=9"},
	} {
		o := lies("/a", words...)
		s := keptAll(o)
		for _, now := range []int{math.MinInt, -1, 0, o.T - 1, o.T, o.T + 1, impl.MaxTime, math.MaxInt} {
			for _, q := range []impl.Req{asks(), asks("cache-control", "no-cache"), asks("cache-control", "max-age=9")} {
				checkDecided(t, s, q, now, impl.DcAgain, o.T)
			}
		}
	}
	// What else an object says of keeping keeps nobody from it.
	for _, control := range []string{"max-age=9", "private, max-age=9", "no-store, max-age=9", "must-revalidate,max-age=9", "no-caches, max-age=9"} {
		o := lies("/a", "cache-control", control)
		checkDecided(t, keptAll(o), asks(), o.T+8, impl.DcHit, o.T)
	}
}

func TestDecideWhoTakesNothingUnasked(t *testing.T) {
	s := keptAll(speaks("/a", "de", 3))
	for _, control := range []string{"no-cache", "No-Cache", "max-age=9, NO-CACHE", "no-cache,no-cache", ",no-cache ,", "private,no-cache"} {
		for _, now := range []int{math.MinInt, 0, 3, 7, 8, impl.MaxTime, math.MaxInt} {
			checkDecided(t, s, saysIn(control), now, impl.DcAgain, 3)
			checkDecided(t, impl.ShelfNew(), saysIn(control), now, impl.DcMiss, -1)
		}
	}
	for _, control := range []string{"no-cach", "no-caches", "no cache", "xno-cache", "no-cache=1", "max-age=0"} {
		checkDecided(t, s, saysIn(control), 7, impl.DcHit, 3)
	}
}

// The last one counts, whether or not one ahead of it is fresh.
func TestDecideByTheLast(t *testing.T) {
	s := shelves(knows(speaks("/a", "de", 9), 19, 1), knows(speaks("/a", "en", 9), 6, 3), knows(speaks("/a", "de", 3), 7, 4))
	checkDecided(t, s, asksIn("/a", "de"), 7, impl.DcHit, 3)
	checkDecided(t, s, asksIn("/a", "de"), 9, impl.DcAgain, 3)
	checkDecided(t, s, asksIn("/a", "en"), 9, impl.DcHit, 9)
	s.Bans = []impl.Ban{banField("etag", "v3", 3)}
	checkDecided(t, s, asksIn("/a", "de"), 9, impl.DcHit, 9)
	s.Bans = append(s.Bans, banPath("/a", 9))
	checkDecided(t, s, asksIn("/a", "de"), 9, impl.DcMiss, -1)
	s = keptAll(speaks("/a", "de", 3), plain("/a", 4))
	checkDecided(t, s, asksIn("/a", "de"), 4, impl.DcAgain, 4)
}

func decidedReqs() []impl.Req {
	all := append(foundReqs(), asks("cache-control", "no-cache"), saysIn("no-store"), saysIn("no-cache"), saysIn("max-age=0"))
	for _, path := range []string{"/0", "/3", "/14"} {
		all = append(all, impl.Req{Method: impl.MtGet, Path: path, Fields: fieldsOf("cache-control", "no-cache", "lang", "de")}, impl.Req{Method: impl.MtHead, Path: path, Fields: fieldsOf("lang", "de")})
	}
	return all
}

func TestDecideByHand(t *testing.T) {
	told := map[int]int{}
	for _, s := range append(rightShelves(), wrongShelves()[:12]...) {
		for _, q := range decidedReqs() {
			for _, now := range []int{4, 14, 15} {
				code, _ := checkDecide(t, s, q, now)
				told[code]++
			}
		}
	}
	if len(told) != 4 {
		t.Errorf("not all codes are told: %v", told)
	}
	for _, now := range anyTimes() {
		for _, s := range []impl.Shelf{stocked(4), keptAll(speaks("/a", "de", 0), speaks("/3", "de", impl.MaxTime), plain("/0", 7))} {
			for _, q := range []impl.Req{asksIn("/a", "de"), asksIn("/3", "de"), asksIn("/0", "de")} {
				checkDecide(t, s, q, now)
			}
		}
	}
}

func TestDecideOfAnyBytes(t *testing.T) {
	for _, text := range fewOdd() {
		s := keptAll(speaks("/"+text, "de", 3), speaks("/a", text, 3), speaks("/a", "x"+text, 3), keeps(""))
		for _, q := range []impl.Req{asksIn("/"+text, "de"), asksIn(text, "de"), asksIn("/a", text), asksIn("/a", "x"+text), asks(text, "de"), saysIn(text), saysIn("no-store" + text), saysIn("no-store," + text), saysIn("no-cache" + text), saysIn(text + ",no-cache"), {Method: impl.MtGet, Path: "/a", Fields: fieldsOf("lang", "x"+text), Body: text}} {
			checkDecide(t, s, q, 5)
		}
		o := plain("/a", 3)
		o.Resp.Fields = fieldsOf("cache-control", "max-age=5"+text, "age", text)
		checkDecide(t, keptAll(o), asks(), 3)
	}
}

// tagged came at 10, and says all that a short answer keeps, and more.
func tagged() impl.Obj {
	o := lies("/a", "x", "1", "vary", "lang", "etag", "v1", "y", "2", "cache-control", "max-age=5")
	o.Names, o.Values, o.T, o.Resp.Body = []string{"lang"}, []string{"de"}, 10, "body"
	return o
}

func TestAnswer(t *testing.T) {
	o := tagged()
	whole := impl.Resp{Status: 200, Fields: fieldsOf("x", "1", "vary", "lang", "etag", "v1", "y", "2", "cache-control", "max-age=5", "age", "4"), Body: "body"}
	short := impl.Resp{Status: 304, Fields: fieldsOf("vary", "lang", "etag", "v1", "cache-control", "max-age=5", "age", "4")}
	for _, q := range []impl.Req{{}, asks(), asks("lang", "de"), asks("etag", "v1"), asks("if-match", "v1"), asks("if-none-match", "v2"), asks("if-none-match", "V1"), asks("if-none-match", "v"), asks("if-none-match", "v11"), asks("if-none-match", `"v1"`), asks("if-none-match", "*"), asks("if-none-match", "v1,v2"), asks("if-none-match", ""), asks("If-None-Match", "v1"), asks("if-none-match", "v2", "if-none-match", "v1")} {
		checkAnswered(t, q, o, 14, whole)
	}
	// Who asks is not looked at but for the tag.
	for _, q := range []impl.Req{asks("if-none-match", "v1"), asks("lang", "en", "if-none-match", "v1"), {Fields: fieldsOf("if-none-match", "v1")}, {Method: impl.MtPost, Path: "/b", Fields: fieldsOf("if-none-match", "v1", "if-none-match", "v2"), Body: "x"}} {
		checkAnswered(t, q, o, 14, short)
	}
	bare := lies("/a", "x", "1")
	for _, q := range []impl.Req{asks(), asks("if-none-match", "v1"), asks("if-none-match", "-"), asks("if-none-match", ""), asks("if-none-match", "1")} {
		checkAnswered(t, q, bare, bare.T+3, impl.Resp{Status: bare.Resp.Status, Fields: fieldsOf("x", "1", "age", "3"), Body: bare.Resp.Body})
	}
}

func TestAnswerAge(t *testing.T) {
	for _, c := range []struct {
		stated    string
		came, now int
		age       string
	}{
		{"", 10, 9, "0"}, {"", 10, 10, "0"}, {"", 10, 11, "1"}, {"", 10, 0, "0"}, {"", 10, -5, "0"}, {"", 10, math.MinInt, "0"}, {"", 10, 20, "10"}, {"", 0, impl.MaxTime, "1000000"}, {"", 1, impl.MaxTime, "999999"}, {"", 0, impl.MaxTime + 1, "1000000"}, {"", 0, math.MaxInt, "1000000"}, {"", impl.MaxTime, impl.MaxTime, "0"}, {"", impl.MaxTime, impl.MaxTime + 1, "1"},
		{"0", 10, 9, "0"}, {"0", 10, 12, "2"}, {"7", 10, 9, "7"}, {"7", 10, 10, "7"}, {"7", 10, 11, "8"}, {"7", 0, 999992, "999999"}, {"7", 0, 999993, "1000000"}, {"7", 0, 999994, "1000000"}, {"7", 0, impl.MaxTime, "1000000"}, {"1000000", 10, 10, "1000000"}, {"1000000", 10, 9, "1000000"},
		{"1000001", 10, 10, "1000000"}, {"x", 10, 10, "1000000"}, {"07", 10, 10, "1000000"}, {"-1", 10, 12, "1000000"}, {"7", math.MinInt, math.MaxInt, "1000000"}, {"7", math.MaxInt, math.MinInt, "7"},
	} {
		o := tagged()
		o.T = c.came
		want := impl.Resp{Status: 200, Fields: append(slices.Clone(o.Resp.Fields), impl.Field{Name: "age", Value: c.age}), Body: "body"}
		// Wherever the age stood in the whole answer, the short one has it last.
		short := impl.Resp{Status: 304, Fields: fieldsOf("vary", "lang", "etag", "v1", "cache-control", "max-age=5", "age", c.age)}
		if c.stated == "" {
			checkAnswered(t, asks(), o, c.now, want)
			checkAnswered(t, asks("if-none-match", "v1"), o, c.now, short)
			continue
		}
		for at := range len(o.Resp.Fields) + 1 {
			was := o
			was.Resp.Fields = slices.Insert(slices.Clone(o.Resp.Fields), at, impl.Field{Name: "age", Value: c.stated})
			want.Fields = slices.Insert(slices.Clone(o.Resp.Fields), at, impl.Field{Name: "age", Value: c.age})
			checkAnswered(t, asks(), was, c.now, want)
			checkAnswered(t, asks("if-none-match", "v1"), was, c.now, short)
		}
	}
}

func TestAnswerManyFields(t *testing.T) {
	for n := range 12 {
		o := lies("/a")
		o.Resp.Fields, o.T = manyFields(n), 10
		want := o.Resp
		if n < 8 {
			want.Fields = append(manyFields(n), fieldsOf("age", "4")...)
		}
		checkAnswered(t, asks(), o, 14, want)
		for at := range n {
			aged := o
			aged.Resp.Fields = manyFields(n)
			aged.Resp.Fields[at] = impl.Field{Name: "age", Value: "7"}
			want := aged.Resp
			if n <= 8 {
				want.Fields = slices.Clone(want.Fields)
				want.Fields[at].Value = "11"
			}
			checkAnswered(t, asks(), aged, 14, want)
			tagged := o
			tagged.Resp.Fields = manyFields(n)
			tagged.Resp.Fields[at] = impl.Field{Name: "etag", Value: "v1"}
			checkAnswered(t, asks("if-none-match", "v1"), tagged, 14, impl.Resp{Status: 304, Fields: fieldsOf("etag", "v1", "age", "4")})
		}
	}
}

// What is not right with the age, either, is told as it was.
func TestAnswerWithWhatIsNoAnswer(t *testing.T) {
	checkAnswered(t, asks(), impl.Obj{}, 7, impl.Resp{})
	checkAnswered(t, impl.Req{}, impl.Obj{Path: "/a", Names: []string{"lang"}, Values: []string{"de", "x"}, T: -7}, 7, impl.Resp{})
	for _, r := range wrongResps() {
		o := impl.Obj{Path: "/a", Resp: r, T: 3}
		checkAnswered(t, asks(), o, 7, r)
		o.Resp.Fields = append(fieldsOf("age", "1"), r.Fields...)
		checkAnswered(t, asks(), o, 7, o.Resp)
	}
	for _, status := range []int{-1, 0, 99, 600, math.MaxInt} {
		o := tagged()
		o.Resp.Status, o.Resp.Fields = status, append(o.Resp.Fields, fieldsOf("age", "1")...)
		checkAnswered(t, asks(), o, 14, o.Resp)
		checkAnswered(t, asks("if-none-match", "v1"), o, 14, impl.Resp{Status: 304, Fields: fieldsOf("vary", "lang", "etag", "v1", "cache-control", "max-age=5", "age", "5")})
	}
	o := tagged()
	o.Resp.Body = strings.Repeat("x", 121)
	checkAnswered(t, asks(), o, 14, o.Resp)
	checkAnswered(t, asks("if-none-match", "v1"), o, 14, impl.Resp{Status: 304, Fields: fieldsOf("vary", "lang", "etag", "v1", "cache-control", "max-age=5", "age", "4")})
	// An age that is not right itself makes room for one that is.
	o = tagged()
	o.Resp.Fields = fieldsOf("age", " ", "x", "1")
	checkAnswered(t, asks(), o, 14, impl.Resp{Status: 200, Fields: fieldsOf("age", "1000000", "x", "1"), Body: "body"})
	for _, words := range [][]string{{"age", "1", "age", "2"}, {"etag", "", "age", "1"}, {"etag", "", "vary", ""}, {"etag", "", "etag", "v"}} {
		o.Resp.Fields = fieldsOf(words...)
		checkAnswered(t, asks(), o, 14, o.Resp)
		short := shortByHand(o.Resp)
		if words[0] == "etag" {
			checkAnswered(t, asks("if-none-match", ""), o, 14, short)
		}
	}
	for _, o := range append(wrongObjs(), someObjs()...) {
		for _, now := range anyTimes() {
			checkAnswer(t, asks(), o, now)
		}
	}
}

func TestAnswerByHand(t *testing.T) {
	for i, asked := range storeLists() {
		for _, told := range slices.Concat(storeLists(), ageLists()[:40], varyLists()[:20]) {
			o := impl.Obj{Path: "/a", Resp: impl.Resp{Status: 100 + i, Fields: told, Body: "b"}, T: 10}
			checkAnswer(t, impl.Req{Method: impl.MtGet, Path: "/a", Fields: asked}, o, 10+i)
		}
	}
	for _, list := range slices.Concat(allLists(), ageLists()) {
		for _, now := range []int{math.MinInt, 3, 10, 17, impl.MaxTime, math.MaxInt} {
			checkAnswer(t, asks(), impl.Obj{Resp: impl.Resp{Status: 200, Fields: list}, T: 10}, now)
		}
	}
}

func TestAnswerOfAnyBytes(t *testing.T) {
	for _, text := range oddTexts() {
		o := tagged()
		o.Resp.Fields, o.Resp.Body = fieldsOf("etag", text, "x", "1", "age", "7"), text
		checkAnswer(t, asks("if-none-match", text), o, 12)
		checkAnswer(t, asks("if-none-match", text+"x"), o, 12)
		o.Resp.Fields = fieldsOf("etag", "v1", "age", text)
		checkAnswer(t, asks(), o, 12)
		checkAnswer(t, asks(text, "v1", "if-none-match", "v1"), o, 12)
		o.Resp.Fields = fieldsOf(text, "v1", "x", text)
		checkAnswer(t, asks("if-none-match", "v1"), o, 12)
	}
}

func TestAlike(t *testing.T) {
	for _, q := range []impl.Req{asks(), asksIn("/a", "de"), asks("a", "1", "b", "2"), saysIn("no-cache"), saysIn("max-age=0"), asks("if-none-match", "v1"), asks("x", "no-store"), {Method: impl.MtGet, Path: "/", Fields: manyFields(8)}, {Method: impl.MtGet, Path: "/" + strings.Repeat("a", 59)}, {Method: impl.MtGet, Path: "/a", Fields: []impl.Field{}}} {
		checkAlike(t, q, impl.Req{Method: q.Method, Path: strings.Clone(q.Path), Fields: slices.Clone(q.Fields)}, true)
		for _, path := range []string{"/b", q.Path + "/", "/A", "a", ""} {
			checkAlike(t, q, impl.Req{Method: impl.MtGet, Path: path, Fields: q.Fields}, false)
		}
		for _, method := range []int{-1, 0, impl.MtHead, impl.MtPost, impl.MtPurge, 5} {
			other := impl.Req{Method: method, Path: q.Path, Fields: q.Fields}
			checkAlike(t, q, other, false)
			checkAlike(t, other, other, false)
		}
		more := impl.Req{Method: impl.MtGet, Path: q.Path, Fields: append(slices.Clone(q.Fields), fieldsOf("more", "1")...)}
		checkAlike(t, q, more, false)
		for _, control := range []string{"no-store", "No-Store, max-age=5", "no-cache,no-store"} {
			secret := impl.Req{Method: impl.MtGet, Path: q.Path, Fields: putByHand(q.Fields, "cache-control", control)}
			checkAlike(t, q, secret, false)
			checkAlike(t, secret, secret, false)
		}
	}
}

// What a GET has as its body is not among what is asked for.
func TestAlikeBodies(t *testing.T) {
	with := impl.Req{Method: impl.MtGet, Path: "/a", Body: "x"}
	other := impl.Req{Method: impl.MtGet, Path: "/a", Body: strings.Repeat("y", 120)}
	checkAlike(t, with, with, true)
	checkAlike(t, with, asks(), true)
	checkAlike(t, with, other, true)
	other.Body += "y"
	checkAlike(t, with, other, false)
	checkAlike(t, other, other, false)
}

func TestAlikeFields(t *testing.T) {
	whole := fieldsOf("a", "1", "b", "2", "c", "3")
	q := asks("a", "1", "b", "2", "c", "3")
	for at := range whole {
		less, value, name := slices.Delete(slices.Clone(whole), at, at+1), slices.Clone(whole), slices.Clone(whole)
		value[at].Value += "x"
		name[at].Name += "x"
		for _, list := range [][]impl.Field{less, value, name, whole[:at]} {
			checkAlike(t, q, impl.Req{Method: impl.MtGet, Path: "/a", Fields: list}, false)
		}
	}
	for _, order := range orders([]string{"a", "b", "c"}) {
		var list []impl.Field
		for _, name := range order {
			list = append(list, impl.Field{Name: name, Value: map[string]string{"a": "1", "b": "2", "c": "3"}[name]})
		}
		checkAlike(t, q, impl.Req{Method: impl.MtGet, Path: "/a", Fields: list}, slices.Equal(list, whole))
	}
	checkAlike(t, asks("a", "b"), asks("b", "a"), false)
	checkAlike(t, asks("a", "1", "b", "1"), asks("a", "1", "b", "2"), false)
	checkAlike(t, asks("a", "De"), asks("a", "de"), false)
	lists := fieldLists([]string{"a", "b", "cache-control"}, []string{"1", "no-store", ""}, 2)
	for _, one := range lists {
		for _, other := range lists {
			a, b := impl.Req{Method: impl.MtGet, Path: "/a", Fields: one}, impl.Req{Method: impl.MtGet, Path: "/a", Fields: other}
			checkAlike(t, a, b, alikeByHand(a, b))
		}
	}
}

func TestAlikeNeedsRightRequests(t *testing.T) {
	for _, q := range slices.Concat(wrongReqs(), whoPass()) {
		checkAlike(t, q, q, false)
		checkAlike(t, q, asks(), false)
		checkAlike(t, q, asksIn("/a", "de"), false)
	}
	for _, a := range append(rightReqs()[:60], foundReqs()...) {
		for _, b := range append(someReqs(), foundReqs()...) {
			checkAlike(t, a, b, alikeByHand(a, b))
		}
	}
	for _, text := range fewOdd() {
		for _, a := range []impl.Req{asksIn("/"+text, "de"), asksIn("/a", text), asks(text, "de"), saysIn("no-store" + text), {Method: impl.MtGet, Path: "/a", Body: text}} {
			checkAlike(t, a, a, alikeByHand(a, a))
			for _, b := range []impl.Req{asks(), asksIn("/", "de"), asksIn("/a", "de"), asksIn("/a", text+"x"), saysIn("no-stores")} {
				checkAlike(t, a, b, alikeByHand(a, b))
			}
		}
	}
}

// decideAnswers tells all that is made of a shelf, who asks, and an object, in
// a shelf.
func decideAnswers(s impl.Shelf, q impl.Req, o impl.Obj, now int) impl.Shelf {
	_, found := impl.Decide(s, q, now)
	impl.Alike(q, q)
	return impl.Shelf{Objs: []impl.Kept{{Obj: found}, {Obj: impl.Obj{Resp: impl.Answer(q, o, now)}}, {Obj: impl.Obj{Resp: impl.Answer(q, found, now)}}}}
}

func decideAnswersByHand(s impl.Shelf, q impl.Req, o impl.Obj, now int) impl.Shelf {
	_, found := decideByHand(s, q, now)
	return impl.Shelf{Objs: []impl.Kept{{Obj: found}, {Obj: impl.Obj{Resp: answerByHand(q, o, now)}}, {Obj: impl.Obj{Resp: answerByHand(q, found, now)}}}}
}

func decidedShelves() []impl.Shelf {
	return slices.Concat(rightShelves(), wrongShelves()[:9], writtenShelves())
}

func tagReqs() []impl.Req {
	return []impl.Req{asksIn("/3", "de"), asksIn("/a", "de"), asks("if-none-match", "v1", "lang", "de"), {Method: impl.MtGet, Path: "/3", Fields: fieldsOf("lang", "de", "if-none-match", "v13")}, saysIn("no-store"), {}}
}

func decidedObjs() []impl.Obj {
	full := tagged()
	full.Resp.Fields = manyFields(8)
	return append(someObjs(), tagged(), full, speaks("/3", "de", 13), impl.Obj{}, wrongObjs()[3])
}

func TestDecisionsWriteIntoNothing(t *testing.T) {
	for i, was := range decidedShelves() {
		for j, wasAsked := range tagReqs() {
			for k, wasObj := range decidedObjs() {
				s, lists := roomyShelf(was)
				o, inside := roomyObj(wasObj)
				q := wasAsked
				front, asked := withRoom(wasAsked.Fields)
				q.Fields = front
				before, insideBefore, askedBefore := lists.copied(), inside.copied(), slices.Clone(asked)
				got, want := decideAnswers(s, q, o, 10+(i+j+k)%7), decideAnswersByHand(was, wasAsked, wasObj, 10+(i+j+k)%7)
				if !sameShelf(got, want) {
					t.Fatalf("with room behind them %#v, %#v and %#v make %#v, not %#v", was, wasAsked, wasObj, got, want)
				}
				turnShelf(got)
				if !lists.same(before) || !inside.same(insideBefore) || !slices.Equal(asked, askedBefore) {
					t.Fatalf("%#v, %#v or %#v was written into, or its room: %#v, %#v, %#v", was, wasAsked, wasObj, lists, asked, inside)
				}
			}
		}
	}
}

func TestDecisionsAreNewMemory(t *testing.T) {
	for _, s := range decidedShelves() {
		for _, q := range tagReqs() {
			for _, o := range decidedObjs() {
				arguments := impl.Shelf{Disk: s.Disk, Objs: append(slices.Clone(s.Objs), impl.Kept{Obj: o}, impl.Kept{Obj: impl.Obj{Path: q.Path, Resp: impl.Resp{Fields: q.Fields, Body: q.Body}}})}
				given := append(spansOf(s), spansOf(arguments)...)
				answer := decideAnswers(s, q, o, 14)
				told := spansOf(answer)
				for i, one := range told {
					if slices.ContainsFunc(slices.Concat(told[:i], given), one.meets) {
						t.Fatalf("a list of %#v shares memory with another one", answer)
					}
				}
				var texts []string
				for _, f := range textsOfShelf(arguments) {
					texts = append(texts, f.Name, f.Value)
				}
				if sharesAny(textsOfShelf(answer), texts...) {
					t.Fatalf("a text of %#v shares memory with an argument", answer)
				}
				runtime.KeepAlive(arguments)
			}
		}
	}
}

func TestPromise15DecisionsAnswerAnything(t *testing.T) {
	long := strings.Repeat("x", 100000)
	odd := impl.Obj{Path: long, Names: make([]string, 1000), Values: make([]string, 1000), Resp: impl.Resp{Status: math.MinInt, Fields: append(make([]impl.Field, 1000), fieldsOf("etag", long)...), Body: long}, T: math.MaxInt}
	much := shelves()
	much.Objs = slices.Repeat([]impl.Kept{knows(plain("/a", 1), 5, 1)}, 10000)
	asked := impl.Req{Method: math.MinInt, Path: long, Fields: append(make([]impl.Field, 10000), fieldsOf("if-none-match", long, "cache-control", strings.Repeat("no-store,", 1000))...), Body: long}
	for _, now := range []int{math.MinInt, -1, 0, 1, impl.MaxTime, math.MaxInt} {
		for _, q := range []impl.Req{{}, asked, asks(), {Method: impl.MtGet, Path: "/" + long}, saysIn(long)} {
			for _, s := range []impl.Shelf{{}, much, shelves(knows(odd, math.MinInt, math.MaxInt)), keptAll(longestObj())} {
				checkDecide(t, s, q, now)
			}
			for _, o := range []impl.Obj{{}, odd, longestObj(), plain("/a", 1)} {
				checkAnswer(t, q, o, now)
			}
			checkAlike(t, q, q, alikeByHand(q, q))
		}
	}
}

// checkFromHere holds what is done with a request to all that was kept and
// banned ahead, whatever the shelf tells of it.
func checkFromHere(t *testing.T, s impl.Shelf, q impl.Req, now int, bans []impl.Ban, texts []string) int {
	t.Helper()
	code, o := checkDecide(t, s, q, now)
	if code != impl.DcHit {
		return code
	}
	asked := controlByHand(q.Fields)
	if !freshByHand(o.Resp.Fields, o.T, now) || !impl.Fresh(o.Resp.Fields, o.T, now) || asked.NoCache || asked.NoStore {
		t.Fatalf("at %d %#v is answered with %#v", now, q, o)
	}
	if o.Path != q.Path || !suitsByHand(o.Names, o.Values, q.Fields) || !impl.Suits(o.Names, o.Values, q.Fields) {
		t.Fatalf("%#v is answered with %#v, which does not suit", q, o)
	}
	if hitByHand(bans, o) || impl.HitsAny(bans, o) || !slices.Contains(texts, objTextByHand(o)) {
		t.Fatalf("%#v is answered with %#v, which is banned, or was never kept", q, o)
	}
	r := checkAnswer(t, q, o, now)
	age, _ := impl.Get(r.Fields, "age")
	if n, ok := impl.NumRead(age); !ok || n >= impl.Life(o.Resp.Fields) || r.Status == 200 && r.Body != o.Resp.Body {
		t.Fatalf("%#v is answered %#v with %#v", q, r, o)
	}
	return code
}

// cameAs is an object that lives as long, and hangs on the language or on
// nothing.
func cameAs(path, lang string, came, life int) impl.Obj {
	o := speaks(path, lang, came)
	if lang == "" {
		o = plain(path, came)
	}
	o.Resp.Fields = putByHand(o.Resp.Fields, "cache-control", fmt.Sprintf("max-age=%d", life))
	return o
}

// fromHereRun does what a row of numbers tells, and asks in all ways behind
// each step.
func fromHereRun(t *testing.T, number uint32, steps int, told map[int]int) {
	t.Helper()
	next := func(below int) int {
		number = number*1664525 + 1013904223
		return int(number>>8) % below
	}
	s, langs := impl.ShelfNew(), []string{"de", "en", ""}
	var bans []impl.Ban
	var texts []string
	for now := range steps {
		switch next(12) {
		case 0:
			s.Disk = impl.Flush(s.Disk)
		case 1, 2:
			keep := make([]bool, next(20))
			for i := range keep {
				keep[i] = next(3) > 0
			}
			s = impl.Mount(impl.Crash(s.Disk, keep))
		case 3:
			b := []impl.Ban{banPath(fmt.Sprintf("/%d", next(5)), now), banBelow(fmt.Sprintf("/%d", next(5)), now), banField("etag", fmt.Sprintf("v%d", max(0, now-next(5))), now)}[next(3)]
			if after, ok := impl.Banish(s, b); ok && next(4) == 0 {
				s, bans = after, append(bans, b)
			}
		default:
			o := cameAs(fmt.Sprintf("/%d", next(5)), langs[next(3)], max(0, now-next(3)), next(12))
			if after, ok := impl.Keep(s, o); ok {
				s, texts = after, append(texts, objTextByHand(o))
			}
		}
		for path := range 5 {
			q := impl.Req{Method: impl.MtGet, Path: fmt.Sprintf("/%d", path)}
			for _, list := range [][]impl.Field{nil, fieldsOf("lang", "de"), fieldsOf("lang", "en"), fieldsOf("lang", "de", "cache-control", "no-cache"), fieldsOf("lang", "de", "cache-control", "no-store"), fieldsOf("lang", "en", "if-none-match", fmt.Sprintf("v%d", now-1))} {
				q.Fields = list
				told[checkFromHere(t, s, q, now, bans, texts)]++
			}
		}
	}
}

func TestPromise15WhatIsAnsweredFromHere(t *testing.T) {
	told := map[int]int{}
	for number := range uint32(12) {
		fromHereRun(t, number, 60, told)
	}
	for code := impl.DcPass; code <= impl.DcMiss; code++ {
		if told[code] < 100 {
			t.Errorf("%d is told %d times only", code, told[code])
		}
	}
}

func TestPromise15OnAnyShelf(t *testing.T) {
	hits := 0
	for _, s := range append(rightShelves(), writtenShelves()...) {
		var texts []string
		for _, one := range s.Objs {
			texts = append(texts, objTextByHand(one.Obj))
		}
		for _, one := range s.Objs {
			for _, b := range [][]impl.Ban{nil, {banPath(one.Obj.Path, one.Obj.T)}, {banBelow("/", one.Obj.T-1)}} {
				with := s
				with.Bans = append(slices.Clone(s.Bans), b...)
				for now := one.Obj.T - 1; now < one.Obj.T+7; now += 2 {
					if checkFromHere(t, with, asksIn(one.Obj.Path, "de"), now, with.Bans, texts) == impl.DcHit {
						hits++
					}
				}
			}
		}
	}
	if hits < 100 {
		t.Errorf("only %d are answered from here", hits)
	}
}

// Who was answered from here once is so no more behind the ban, power lost or
// not.
func TestPromise15BehindABan(t *testing.T) {
	for _, b := range []impl.Ban{banPath("/a", 4), banBelow("/a", 4), banField("etag", "v4", 4), banField("cache-control", "max-age=5", 9)} {
		s := keptAll(speaks("/a", "de", 4))
		checkDecided(t, s, asksIn("/a", "de"), 5, impl.DcHit, 4)
		s, _ = impl.Banish(s, b)
		for _, keep := range someKeeps() {
			for _, after := range []impl.Shelf{s, impl.Mount(s.Disk), impl.Mount(impl.Crash(s.Disk, keep)), impl.Mount(impl.Flush(s.Disk))} {
				for now := range 12 {
					checkDecided(t, after, asksIn("/a", "de"), now, impl.DcMiss, -1)
				}
			}
		}
		later := speaks("/a", "de", b.T+1)
		s, _ = impl.Keep(s, later)
		checkDecided(t, s, asksIn("/a", "de"), b.T+1, impl.DcHit, b.T+1)
	}
}
