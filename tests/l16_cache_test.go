package tests

import (
	"fmt"
	"math"
	"reflect"
	"runtime"
	"slices"
	"strings"
	"testing"

	"loop.example/g00239/impl"
)

func sameFlight(a, b impl.Flight) bool {
	return sameReq(a.Q, b.Q) && slices.Equal(a.Who, b.Who) && sameObj(a.Old, b.Old) && a.HasOld == b.HasOld
}

func sameSeen(a, b impl.Seen) bool {
	return sameReq(a.Q, b.Q) && sameResp(a.Resp, b.Resp) && a.T == b.T
}

func sameReply(a, b impl.Reply) bool {
	return a.Client == b.Client && sameReq(a.Q, b.Q) && sameResp(a.Resp, b.Resp) && a.Kind == b.Kind && a.T == b.T && sameObj(a.Obj, b.Obj) && a.Bans == b.Bans
}

func sameCache(a, b impl.Cache) bool {
	return sameShelf(a.Shelf, b.Shelf) && slices.EqualFunc(a.Flights, b.Flights, sameFlight) && a.Now == b.Now && slices.EqualFunc(a.Seen, b.Seen, sameSeen) && slices.EqualFunc(a.Sent, b.Sent, sameReply)
}

func cacheOkByHand(c impl.Cache) bool {
	for i, f := range c.Flights {
		if !impl.ReqOk(f.Q) || len(f.Who) == 0 || len(f.Who) > 5 || f.HasOld && !objOkByHand(f.Old) {
			return false
		}
		for _, other := range c.Flights[:i] {
			if alikeByHand(other.Q, f.Q) {
				return false
			}
		}
	}
	return shelfOkByHand(c.Shelf) && 0 <= c.Now && c.Now <= 1000000 && len(c.Flights) < 6 && len(c.Seen) < 1501 && len(c.Sent) < 1501
}

func sentByHand(c impl.Cache, a impl.Reply) impl.Cache {
	a.T = c.Now
	c.Sent = slices.Concat(c.Sent, []impl.Reply{a})
	return c
}

func askedByHand(c impl.Cache, client int, q impl.Req) (impl.Cache, int) {
	if !impl.ReqOk(q) {
		return c, 1
	}
	if len(c.Sent) > 1494 {
		return c, 3
	}
	not := impl.Reply{Client: client, Q: q, Kind: 4, Resp: impl.Resp{Status: 503}}
	if q.Method == 4 {
		s, ok := banishByHand(c.Shelf, impl.Ban{Kind: 1, A: q.Path, T: c.Now})
		if ok {
			c.Shelf, not.Resp.Status = s, 200
		}
		return sentByHand(c, not), 0
	}
	code, o := decideByHand(c.Shelf, q, c.Now)
	if code == 2 {
		return sentByHand(c, impl.Reply{Client: client, Q: q, Kind: 1, Resp: answerByHand(q, o, c.Now), Obj: o, Bans: len(c.Shelf.Bans)}), 0
	}
	flights := slices.Clone(c.Flights)
	for i, f := range flights {
		if !alikeByHand(f.Q, q) {
			continue
		}
		if len(f.Who) == 5 {
			return sentByHand(c, not), 0
		}
		flights[i].Who = slices.Concat(f.Who, []int{client})
		c.Flights = flights
		return c, 0
	}
	if len(flights) == 5 {
		return sentByHand(c, not), 0
	}
	c.Flights = append(flights, impl.Flight{Q: q, Who: []int{client}, Old: o, HasOld: code == 3})
	return c, 0
}

// overByHand ends a flight: all who wait for it are answered so.
func overByHand(c impl.Cache, at int, kind int, r impl.Resp) impl.Cache {
	f := c.Flights[at]
	for _, client := range f.Who {
		c = sentByHand(c, impl.Reply{Client: client, Q: f.Q, Kind: kind, Resp: r})
	}
	c.Flights = slices.Delete(slices.Clone(c.Flights), at, at+1)
	return c
}

func repliedByHand(c impl.Cache, at int, r impl.Resp) (impl.Cache, int) {
	if !impl.RespOk(r) {
		return c, 1
	}
	if at < 0 || at >= len(c.Flights) {
		return c, 2
	}
	if len(c.Seen) > 1494 || len(c.Sent) > 1494 {
		return c, 3
	}
	f := c.Flights[at]
	c.Seen = slices.Concat(c.Seen, []impl.Seen{{Q: f.Q, Resp: r, T: c.Now}})
	if r.Status != 304 || !f.HasOld {
		if o, ok := objOfByHand(f.Q, r, c.Now); ok {
			c.Shelf, _ = keepByHand(c.Shelf, o)
		}
		return overByHand(c, at, 2, r), 0
	}
	merged := mergeByHand(f.Old.Resp, r)
	o, ok := objOfByHand(impl.Req{Method: 1, Path: f.Old.Path, Fields: f.Q.Fields}, merged, c.Now)
	if ok && slices.Equal(o.Names, f.Old.Names) {
		c.Shelf, _ = keepByHand(c.Shelf, o)
		merged = answerByHand(f.Q, o, c.Now)
	}
	return overByHand(c, at, 3, merged), 0
}

func cacheDoByHand(c impl.Cache, d impl.Deed) (impl.Cache, int) {
	if !cacheOkByHand(c) {
		return impl.Cache{}, 1
	}
	switch d.Kind {
	case 1:
		return askedByHand(c, d.Client, d.Q)
	case 2:
		return repliedByHand(c, d.A, d.Resp)
	case 3:
		if d.A < 0 || d.A >= len(c.Flights) {
			return c, 2
		}
		if len(c.Sent) > 1494 {
			return c, 3
		}
		return overByHand(c, d.A, 4, impl.Resp{Status: 504}), 0
	case 4:
		if d.A < 0 || d.A > 1000000 || c.Now+d.A > 1000000 {
			return c, 1
		}
		c.Now += d.A
	case 5:
		s, ok := banishByHand(c.Shelf, impl.Ban{Kind: d.Ban.Kind, A: d.Ban.A, B: d.Ban.B, T: c.Now})
		if !ok {
			return c, 3
		}
		c.Shelf = s
	case 6:
		c.Shelf.Disk = flushByHand(c.Shelf.Disk)
	case 7:
		c.Shelf, c.Flights = mountByHand(crashByHand(c.Shelf.Disk, d.Keep)), nil
	default:
		return impl.Cache{}, 1
	}
	return c, 0
}

func cacheRunByHand(c impl.Cache, list []impl.Deed) (impl.Cache, []int) {
	if len(list) > 200 || !cacheOkByHand(c) {
		return c, nil
	}
	var codes []int
	for _, d := range list {
		after, code := cacheDoByHand(c, d)
		if codes = append(codes, code); code == 0 {
			c = after
		}
	}
	return c, codes
}

// inShort is a text of anything that can be read in a test's log.
func inShort(v any) string {
	text := fmt.Sprintf("%+v", v)
	return text[:min(len(text), 3000)]
}

func checkCacheOk(t *testing.T, c impl.Cache, want bool) {
	t.Helper()
	if got := impl.CacheOk(c); got != want || cacheOkByHand(c) != want {
		t.Fatalf("CacheOk(%s) = %v", inShort(c), got)
	}
}

// checkDo holds what is refused to what was there itself, too, not to the
// model alone.
func checkDo(t *testing.T, c impl.Cache, d impl.Deed) (impl.Cache, int) {
	t.Helper()
	want, wantCode := cacheDoByHand(c, d)
	got, code := impl.CacheDo(c, d)
	if code != wantCode || !sameCache(got, want) {
		t.Fatalf("CacheDo(%s, %s) = %s, %d, not %s, %d", inShort(c), inShort(d), inShort(got), code, inShort(want), wantCode)
	}
	if code != impl.CdDone && !sameCache(got, c) && !sameCache(got, impl.Cache{}) || code == impl.CdDone && !impl.CacheOk(got) {
		t.Fatalf("CacheDo(%s, %s) = %s, %d", inShort(c), inShort(d), inShort(got), code)
	}
	return got, code
}

// checkDeed is for a deed whose code is known without any model.
func checkDeed(t *testing.T, c impl.Cache, d impl.Deed, want int) impl.Cache {
	t.Helper()
	got, code := checkDo(t, c, d)
	if code != want || want != impl.CdDone && !sameCache(got, c) {
		t.Fatalf("CacheDo(%s, %s) = %s, %d, not %d", inShort(c), inShort(d), inShort(got), code, want)
	}
	return got
}

func checkRun(t *testing.T, c impl.Cache, list []impl.Deed) (impl.Cache, []int) {
	t.Helper()
	want, wantCodes := cacheRunByHand(c, list)
	got, codes := impl.CacheRun(c, list)
	if !sameCache(got, want) || !slices.Equal(codes, wantCodes) {
		t.Fatalf("CacheRun(%s, %s) = %s, %v, not %s, %v", inShort(c), inShort(list), inShort(got), codes, inShort(want), wantCodes)
	}
	return got, codes
}

// checkSent tells all that was answered behind the first ones, without any
// model.
func checkSent(t *testing.T, c impl.Cache, from int, want ...impl.Reply) {
	t.Helper()
	if len(c.Sent) < from || !slices.EqualFunc(c.Sent[from:], want, sameReply) {
		t.Fatalf("behind %d there was answered %s, not %s", from, inShort(c.Sent), inShort(want))
	}
}

func flies(q impl.Req, who ...int) impl.Flight { return impl.Flight{Q: q, Who: who} }

func fliesFor(q impl.Req, old impl.Obj, who ...int) impl.Flight {
	return impl.Flight{Q: q, Who: who, Old: old, HasOld: true}
}

func askDeed(client int, q impl.Req) impl.Deed {
	return impl.Deed{Kind: impl.CaAsk, Client: client, Q: q}
}

func replyDeed(at int, r impl.Resp) impl.Deed {
	return impl.Deed{Kind: impl.CaReply, A: at, Resp: r}
}

func failDeed(at int) impl.Deed { return impl.Deed{Kind: impl.CaFail, A: at} }

func tickDeed(n int) impl.Deed { return impl.Deed{Kind: impl.CaTick, A: n} }

func banDeed(b impl.Ban) impl.Deed { return impl.Deed{Kind: impl.CaBan, Ban: b} }

func crashDeed(keep ...bool) impl.Deed { return impl.Deed{Kind: impl.CaCrash, Keep: keep} }

func syncDeed() impl.Deed { return impl.Deed{Kind: impl.CaSync} }

func purges(path string) impl.Req { return impl.Req{Method: impl.MtPurge, Path: path} }

func posts(path string) impl.Req { return impl.Req{Method: impl.MtPost, Path: path, Body: "x"} }

// keepable is an answer that may be kept for so long.
func keepable(life int) impl.Resp {
	return tells("cache-control", fmt.Sprintf("max-age=%d", life), "etag", "k")
}

func same304(words ...string) impl.Resp { return impl.Resp{Status: 304, Fields: fieldsOf(words...)} }

// busy stands in the midst of its work: at 12, when /a is fresh in German, and
// /b no more; the origin is asked thrice.
func busy() impl.Cache {
	c := impl.Cache{Shelf: keptAll(speaks("/a", "de", 10), speaks("/b", "de", 3), plain("/c", 4)), Now: 12}
	c.Flights = []impl.Flight{flies(asks("x", "1"), 1, 2), fliesFor(asksIn("/b", "de"), speaks("/b", "de", 3), 3), flies(posts("/a"), 4)}
	c.Seen = []impl.Seen{{Q: asksIn("/b", "de"), Resp: speaks("/b", "de", 3).Resp, T: 3}, {Q: asksIn("/a", "de"), Resp: speaks("/a", "de", 10).Resp, T: 10}}
	c.Sent = []impl.Reply{{Client: 9, Q: asksIn("/b", "de"), Resp: speaks("/b", "de", 3).Resp, Kind: impl.AnThere, T: 3}, {Client: 8, Q: asksIn("/a", "de"), Resp: tells("age", "1"), Kind: impl.AnHere, T: 11, Obj: speaks("/a", "de", 10), Bans: 1}}
	return c
}

// withLists is it with so many of Seen and of Sent.
func withLists(c impl.Cache, seen, sent int) impl.Cache {
	c.Seen = slices.Repeat([]impl.Seen{{Q: asks(), Resp: impl.Resp{Status: 404}, T: 3}}, seen)
	c.Sent = slices.Repeat([]impl.Reply{{Client: 7, Q: asks(), Resp: impl.Resp{Status: 504}, Kind: impl.AnNot, T: 3}}, sent)
	return c
}

// manyFlights are n flights of which no two are alike, of one client more each.
func manyFlights(n int) []impl.Flight {
	var all []impl.Flight
	for i := range n {
		all = append(all, flies(asksIn(fmt.Sprintf("/f%d", i), "de"), manyClients(1+i%5)...))
	}
	return all
}

func manyClients(n int) []int {
	var all []int
	for i := range n {
		all = append(all, 100+i)
	}
	return all
}

func rightCaches() []impl.Cache {
	all := []impl.Cache{impl.CacheNew(), busy()}
	for i, s := range rightShelves() {
		c := busy()
		c.Shelf, c.Flights, c.Now = s, manyFlights(i%6), 10+i%8
		all = append(all, c)
	}
	for n := range 6 {
		c := busy()
		c.Flights = manyFlights(n)
		c.Shelf.Bans = manyBans(n)
		all = append(all, c)
	}
	for _, now := range []int{0, 1, 999999, 1000000} {
		c := busy()
		c.Now = now
		all = append(all, c)
	}
	return all
}

// wrongCaches are wrong in one way each, but for the first ones.
func wrongCaches() []impl.Cache {
	all := []impl.Cache{{}, {Now: -1}, {Shelf: impl.ShelfNew(), Now: -1, Flights: make([]impl.Flight, 9)}}
	turn := func(how func(c *impl.Cache)) {
		c := busy()
		how(&c)
		all = append(all, c)
	}
	for _, s := range wrongShelves() {
		turn(func(c *impl.Cache) { c.Shelf = s })
	}
	for _, now := range []int{math.MinInt, -1, 1000001, math.MaxInt} {
		turn(func(c *impl.Cache) { c.Now = now })
	}
	turn(func(c *impl.Cache) { c.Flights = manyFlights(6) })
	for i, q := range wrongReqs() {
		turn(func(c *impl.Cache) { c.Flights[i%3].Q = q })
	}
	for i := range 3 {
		turn(func(c *impl.Cache) { c.Flights[i].Who = nil })
		turn(func(c *impl.Cache) { c.Flights[i].Who = manyClients(6) })
		turn(func(c *impl.Cache) { c.Flights[i].HasOld, c.Flights[i].Old = true, impl.Obj{} })
	}
	turn(func(c *impl.Cache) { c.Flights[0].Q = c.Flights[1].Q })
	turn(func(c *impl.Cache) { c.Flights[2].Q = c.Flights[0].Q })
	turn(func(c *impl.Cache) { c.Seen = make([]impl.Seen, 1501) })
	turn(func(c *impl.Cache) { c.Sent = make([]impl.Reply, 1501) })
	return all
}

// someDeeds are of all kinds, some of which nobody does.
func someDeeds() []impl.Deed {
	all := []impl.Deed{{}, {Kind: -1}, {Kind: 8, Q: asks()}, syncDeed(), crashDeed(), crashDeed(true, false, true), crashDeed(slices.Repeat([]bool{true}, 20)...)}
	for _, q := range []impl.Req{{}, asks(), asks("x", "1"), asks("if-none-match", "v10", "lang", "de"), asksIn("/a", "de"), asksIn("/b", "de"), asksIn("/c", "en"), asksIn("/3", "de"), asksIn("/f0", "de"), asksIn("/f4", "de"), saysIn("no-cache"), saysIn("no-store"), posts("/a"), {Method: impl.MtHead, Path: "/a"}, purges("/a"), purges("/none"), purges("a")} {
		all = append(all, askDeed(50, q))
	}
	for at := -1; at <= 5; at++ {
		for _, r := range []impl.Resp{{}, keepable(5), {Status: 404}, same304(), same304("etag", "v9", "cache-control", "max-age=9"), same304("vary", "x"), tells("cache-control", "max-age=5", "vary", "lang")} {
			all = append(all, replyDeed(at, r))
		}
		all = append(all, failDeed(at))
	}
	for _, n := range []int{-1, 0, 1, 5, 999988, 1000000, 1000001} {
		all = append(all, tickDeed(n))
	}
	for _, b := range []impl.Ban{{}, banPath("/a", 12), banBelow("/", 0), banField("etag", "v3", -1), banPath("a", 0)} {
		all = append(all, banDeed(b))
	}
	return all
}

func TestCacheLimits(t *testing.T) {
	if impl.MaxFlights != 5 || impl.MaxWho != 5 || impl.MaxList != 1500 || impl.MaxDeeds != 200 {
		t.Error("other limits are told", impl.MaxFlights, impl.MaxWho, impl.MaxList, impl.MaxDeeds)
	}
	got := []int{impl.AnHere, impl.AnThere, impl.AnSame, impl.AnNot, impl.CaAsk, impl.CaReply, impl.CaFail, impl.CaTick, impl.CaBan, impl.CaSync, impl.CaCrash, impl.CdDone, impl.CdBad, impl.CdNone, impl.CdFull}
	if !slices.Equal(got, []int{1, 2, 3, 4, 1, 2, 3, 4, 5, 6, 7, 0, 1, 2, 3}) {
		t.Error("other codes are told", got)
	}
}

func TestCacheOk(t *testing.T) {
	for _, c := range rightCaches() {
		checkCacheOk(t, c, true)
	}
	for _, c := range wrongCaches() {
		checkCacheOk(t, c, false)
	}
}

func TestCacheOkNow(t *testing.T) {
	for _, now := range append(anyTimes(), math.MinInt, -1, 0, 1, 999999, 1000000, 1000001, math.MaxInt) {
		for _, c := range []impl.Cache{impl.CacheNew(), busy()} {
			c.Now = now
			checkCacheOk(t, c, 0 <= now && now <= 1000000)
		}
	}
}

func TestCacheOkFlights(t *testing.T) {
	for n := range 12 {
		c := busy()
		c.Flights = manyFlights(n)
		checkCacheOk(t, c, n <= 5)
		c.Flights = slices.Repeat([]impl.Flight{flies(posts("/a"), 1)}, n)
		checkCacheOk(t, c, n <= 5)
		for i := range min(n, 5) {
			c.Flights = manyFlights(n)
			c.Flights[i].Q.Path = "a"
			checkCacheOk(t, c, false)
		}
	}
	for _, q := range wrongReqs() {
		c := impl.CacheNew()
		c.Flights = []impl.Flight{flies(q, 1)}
		checkCacheOk(t, c, false)
	}
	for _, q := range rightReqs()[:300] {
		c := impl.CacheNew()
		c.Flights = []impl.Flight{flies(q, 1)}
		checkCacheOk(t, c, true)
	}
}

// Who waits may be anybody, and twice.
func TestCacheOkClients(t *testing.T) {
	for n := range 12 {
		for i := range 5 {
			c := impl.CacheNew()
			c.Flights = manyFlights(5)
			c.Flights[i].Who = make([]int, n)
			checkCacheOk(t, c, 1 <= n && n <= 5)
		}
	}
	c := impl.CacheNew()
	c.Flights = []impl.Flight{flies(asks(), -1, math.MinInt, math.MaxInt, 3, 3), flies(posts("/a"), 3, -1)}
	checkCacheOk(t, c, true)
}

func TestCacheOkOld(t *testing.T) {
	for i := range 3 {
		for _, o := range wrongObjs() {
			c := busy()
			c.Flights[i].Old, c.Flights[i].HasOld = o, true
			checkCacheOk(t, c, false)
			c.Flights[i].HasOld = false
			checkCacheOk(t, c, true)
		}
		// Whether it is of that path, and suits, is not asked for.
		for _, o := range someObjs() {
			c := busy()
			c.Flights[i].Old, c.Flights[i].HasOld = o, true
			checkCacheOk(t, c, true)
		}
	}
}

func TestCacheOkAlike(t *testing.T) {
	with := asks()
	with.Body = "x"
	for _, pair := range []struct {
		a, b impl.Req
		ok   bool
	}{
		{asks(), asks(), false}, {asks("a", "1"), asks("a", "1"), false}, {asks(), with, false}, {saysIn("no-cache"), saysIn("no-cache"), false},
		{asks(), asks("a", "1"), true}, {asks("a", "1", "b", "2"), asks("b", "2", "a", "1"), true}, {asks(), asksIn("/b", "de"), true}, {saysIn("no-store"), saysIn("no-store"), true}, {posts("/a"), posts("/a"), true}, {purges("/a"), purges("/a"), true}, {asks(), impl.Req{Method: impl.MtHead, Path: "/a"}, true},
	} {
		for i := range 5 {
			for j := range 5 {
				if i == j {
					continue
				}
				c := impl.CacheNew()
				c.Flights = manyFlights(5)
				c.Flights[i].Q, c.Flights[j].Q = pair.a, pair.b
				checkCacheOk(t, c, pair.ok)
			}
		}
	}
}

// What was seen and sent is not looked at, but for how much it is.
func TestCacheOkLists(t *testing.T) {
	for _, n := range []int{0, 1, 1494, 1495, 1499, 1500, 1501, 1502, 5000} {
		c := busy()
		c.Seen = make([]impl.Seen, n)
		checkCacheOk(t, c, n <= 1500)
		c.Sent = make([]impl.Reply, 1500)
		checkCacheOk(t, c, n <= 1500)
		c.Seen, c.Sent = nil, make([]impl.Reply, n)
		checkCacheOk(t, c, n <= 1500)
	}
}

func TestCacheNew(t *testing.T) {
	c := impl.CacheNew()
	if !sameCache(c, impl.Cache{Shelf: newShelfByHand()}) || !sameShelf(c.Shelf, impl.ShelfNew()) {
		t.Fatalf("CacheNew() = %#v", c)
	}
	checkCacheOk(t, c, true)
	turnShelf(c.Shelf)
	if !sameCache(impl.CacheNew(), impl.Cache{Shelf: newShelfByHand()}) {
		t.Fatalf("a new cache turned with another one: %#v", impl.CacheNew())
	}
}

func TestCacheDoWithWhatIsNone(t *testing.T) {
	for _, c := range wrongCaches() {
		for _, d := range []impl.Deed{{}, askDeed(1, asks()), askDeed(1, impl.Req{}), askDeed(1, purges("/a")), replyDeed(0, keepable(5)), replyDeed(-1, impl.Resp{}), failDeed(0), tickDeed(1), tickDeed(-1), banDeed(banPath("/a", 0)), banDeed(impl.Ban{}), syncDeed(), crashDeed(true)} {
			if got, code := checkDo(t, c, d); code != impl.CdBad || !sameCache(got, impl.Cache{}) {
				t.Fatalf("CacheDo(%s, %s) = %s, %d", inShort(c), inShort(d), inShort(got), code)
			}
		}
	}
}

func TestCacheDoNoKind(t *testing.T) {
	for _, c := range append(rightCaches(), withLists(busy(), 1500, 1500)) {
		for _, kind := range []int{math.MinInt, -7, -1, 0, 8, 9, 100, math.MaxInt} {
			d := impl.Deed{Kind: kind, Client: 1, Q: asks(), Resp: keepable(5), Ban: banPath("/a", 0), Keep: []bool{true}}
			if got, code := checkDo(t, c, d); code != impl.CdBad || !sameCache(got, impl.Cache{}) {
				t.Fatalf("CacheDo(%s, %s) = %s, %d", inShort(c), inShort(d), inShort(got), code)
			}
		}
	}
}

func TestCacheDoByHand(t *testing.T) {
	told := map[[2]int]int{}
	for _, c := range append(rightCaches(), withLists(busy(), 1494, 1494), withLists(busy(), 1495, 3), withLists(busy(), 3, 1495)) {
		for _, d := range someDeeds() {
			_, code := checkDo(t, c, d)
			told[[2]int{d.Kind, code}]++
		}
	}
	for _, one := range [][2]int{{1, 0}, {1, 1}, {1, 3}, {2, 0}, {2, 1}, {2, 2}, {2, 3}, {3, 0}, {3, 2}, {3, 3}, {4, 0}, {4, 1}, {5, 0}, {5, 3}, {6, 0}, {7, 0}} {
		if told[one] == 0 {
			t.Errorf("of kind %d the code %d is never told", one[0], one[1])
		}
	}
}

func TestCacheAskThatIsNone(t *testing.T) {
	full := withLists(busy(), 3, 1495)
	for i, q := range append(wrongReqs(), purges(""), purges("a"), impl.Req{Method: impl.MtPurge, Path: "/a", Fields: fieldsOf("x", "")}, impl.Req{Method: impl.MtGet, Path: "/a", Fields: append(fieldsOf("lang", "de"), manyFields(8)...)}) {
		checkDeed(t, impl.CacheNew(), askDeed(1, q), impl.CdBad)
		checkDeed(t, busy(), askDeed(1, q), impl.CdBad)
		if i%10 == 0 {
			checkDeed(t, full, askDeed(1, q), impl.CdBad)
		}
	}
}

func TestCacheAskWhenMuchWasSent(t *testing.T) {
	for _, c := range []struct{ sent, code int }{{0, impl.CdDone}, {1493, impl.CdDone}, {1494, impl.CdDone}, {1495, impl.CdFull}, {1496, impl.CdFull}, {1499, impl.CdFull}, {1500, impl.CdFull}} {
		for _, q := range []impl.Req{asksIn("/a", "de"), asksIn("/b", "de"), asks("x", "1"), asks("x", "2"), posts("/x"), saysIn("no-store"), purges("/a")} {
			for _, seen := range []int{0, 1494, 1500} {
				checkDeed(t, withLists(busy(), seen, c.sent), askDeed(1, q), c.code)
			}
		}
	}
}

func TestCacheAskPurge(t *testing.T) {
	c := busy()
	q := impl.Req{Method: impl.MtPurge, Path: "/a", Fields: fieldsOf("cache-control", "no-store", "lang", "en"), Body: "y"}
	got := checkDeed(t, c, askDeed(-3, q), impl.CdDone)
	checkSent(t, got, 2, impl.Reply{Client: -3, Q: q, Resp: impl.Resp{Status: 200}, Kind: impl.AnNot, T: 12})
	if !slices.Equal(got.Shelf.Bans, []impl.Ban{banPath("/a", 12)}) || len(got.Flights) != 3 || len(got.Seen) != 2 || got.Now != 12 {
		t.Fatalf("a PURGE makes %s", inShort(got))
	}
	checkKnown(t, got.Shelf, 8, 5, 3, 4)
	// Who asks now, asks the origin, which is asked for nothing that was kept.
	got = checkDeed(t, got, askDeed(5, asksIn("/a", "de")), impl.CdDone)
	if f := got.Flights[3]; !sameFlight(f, flies(asksIn("/a", "de"), 5)) {
		t.Fatalf("behind a PURGE there flies %s", inShort(f))
	}
	// What comes at the same time is hit by it, what comes later is not.
	for _, later := range []int{0, 1} {
		after := checkDeed(t, got, tickDeed(later), impl.CdDone)
		after = checkDeed(t, after, replyDeed(3, keepable(5)), impl.CdDone)
		checkDecided(t, after.Shelf, asksIn("/a", "de"), 13, []int{impl.DcMiss, impl.DcHit}[later], []int{-1, 13}[later])
	}
}

func TestCacheAskPurgeThatCantBeDone(t *testing.T) {
	for n := range 6 {
		c := busy()
		c.Shelf.Bans = manyBans(n)
		status := 200
		if n == 5 {
			status = 503
		}
		got := checkDeed(t, c, askDeed(1, purges("/none")), impl.CdDone)
		checkSent(t, got, 2, impl.Reply{Client: 1, Q: purges("/none"), Resp: impl.Resp{Status: status}, Kind: impl.AnNot, T: 12})
		if len(got.Shelf.Bans) != min(n+1, 5) || n == 5 && !sameShelf(got.Shelf, c.Shelf) {
			t.Fatalf("with %d bans there are %s", n, inShort(got.Shelf.Bans))
		}
	}
	c := busy()
	c.Shelf.Seq = impl.MaxSeq
	got := checkDeed(t, c, askDeed(1, purges("/a")), impl.CdDone)
	checkSent(t, got, 2, impl.Reply{Client: 1, Q: purges("/a"), Resp: impl.Resp{Status: 503}, Kind: impl.AnNot, T: 12})
	if !sameShelf(got.Shelf, c.Shelf) {
		t.Fatalf("what could not be done makes %s", inShort(got.Shelf))
	}
	// It needs no flight, and nothing that it says keeps it back.
	full := busy()
	full.Flights = manyFlights(5)
	checkSent(t, checkDeed(t, full, askDeed(1, purges("/f0")), impl.CdDone), 2, impl.Reply{Client: 1, Q: purges("/f0"), Resp: impl.Resp{Status: 200}, Kind: impl.AnNot, T: 12})
}

func TestCacheAskFromHere(t *testing.T) {
	o := speaks("/a", "de", 10)
	for n := range 6 {
		c := busy()
		c.Shelf.Bans = manyBans(n)
		for now := 10; now < 15; now++ {
			c.Now = now
			age := fmt.Sprint(now - 10)
			q := asksIn("/a", "de")
			got := checkDeed(t, c, askDeed(7, q), impl.CdDone)
			whole := tells("cache-control", "max-age=5", "vary", "lang", "etag", "v10", "age", age)
			checkSent(t, got, 2, impl.Reply{Client: 7, Q: q, Resp: whole, Kind: impl.AnHere, T: now, Obj: o, Bans: n})
			if !sameShelf(got.Shelf, c.Shelf) || len(got.Flights) != 3 || len(got.Seen) != 2 || got.Now != now {
				t.Fatalf("who is answered from here makes %s", inShort(got))
			}
			q = asks("if-none-match", "v10", "lang", "de")
			got = checkDeed(t, c, askDeed(7, q), impl.CdDone)
			short := same304("cache-control", "max-age=5", "vary", "lang", "etag", "v10", "age", age)
			checkSent(t, got, 2, impl.Reply{Client: 7, Q: q, Resp: short, Kind: impl.AnHere, T: now, Obj: o, Bans: n})
		}
		c.Now = 15
		got := checkDeed(t, c, askDeed(7, asksIn("/a", "de")), impl.CdDone)
		if checkSent(t, got, 2); !sameFlight(got.Flights[3], fliesFor(asksIn("/a", "de"), o, 7)) {
			t.Fatalf("there flies %s", inShort(got.Flights))
		}
	}
}

// Who can be answered from here waits for nobody, however full it is.
func TestCacheAskFromHereAheadOfFlights(t *testing.T) {
	q := asksIn("/a", "de")
	for n := range 5 {
		for who := 1; who <= 5; who++ {
			c := busy()
			c.Flights = manyFlights(n)
			c.Flights = append(c.Flights, flies(q, manyClients(who)...))
			got := checkDeed(t, c, askDeed(7, q), impl.CdDone)
			if len(got.Sent) != 3 || got.Sent[2].Kind != impl.AnHere || !slices.EqualFunc(got.Flights, c.Flights, sameFlight) {
				t.Fatalf("CacheDo(%s, ..) = %s", inShort(c), inShort(got))
			}
		}
	}
	full := busy()
	full.Flights = manyFlights(5)
	if got := checkDeed(t, full, askDeed(7, q), impl.CdDone); got.Sent[2].Kind != impl.AnHere {
		t.Fatalf("it is answered %s", inShort(got.Sent[2]))
	}
}

func TestCacheAskJoins(t *testing.T) {
	for n := range 5 {
		for at := range n + 1 {
			q := asks("x", "1")
			c := impl.CacheNew()
			c.Flights = slices.Insert(manyFlights(n), at, flies(q, 1))
			was := c.Flights
			for client := 2; client <= 5; client++ {
				c = checkDeed(t, c, askDeed(client, q), impl.CdDone)
				if len(c.Flights) != n+1 || len(c.Sent) != 0 || len(c.Seen) != 0 || !slices.Equal(c.Flights[at].Who, []int{1, 2, 3, 4, 5}[:client]) {
					t.Fatalf("who joins makes %s", inShort(c))
				}
			}
			for i, f := range c.Flights {
				if i != at && !sameFlight(f, was[i]) {
					t.Fatalf("another flight is %s", inShort(f))
				}
			}
			not := impl.Reply{Client: 6, Q: q, Resp: impl.Resp{Status: 503}, Kind: impl.AnNot}
			flights := c.Flights
			c = checkDeed(t, c, askDeed(6, q), impl.CdDone)
			checkSent(t, c, 0, not)
			c = checkDeed(t, c, askDeed(6, q), impl.CdDone)
			checkSent(t, c, 0, not, not)
			if !slices.EqualFunc(c.Flights, flights, sameFlight) {
				t.Fatalf("behind one too many there flies %s", inShort(c.Flights))
			}
		}
	}
}

// Those who are alike join though the one who was first had another body, and
// though they ask twice; what the flight is for stays as it was.
func TestCacheAskJoinsWhoIsAlike(t *testing.T) {
	with := asks()
	with.Body = "x"
	for _, pair := range [][2]impl.Req{{asks(), with}, {with, asks()}, {asks(), asks()}, {saysIn("no-cache"), saysIn("no-cache")}, {asks("if-none-match", "v1"), asks("if-none-match", "v1")}} {
		c := checkDeed(t, impl.CacheNew(), askDeed(1, pair[0]), impl.CdDone)
		c = checkDeed(t, c, askDeed(1, pair[1]), impl.CdDone)
		if len(c.Flights) != 1 || !sameFlight(c.Flights[0], flies(pair[0], 1, 1)) {
			t.Fatalf("there flies %s", inShort(c.Flights))
		}
		c = checkDeed(t, c, replyDeed(0, impl.Resp{Status: 404}), impl.CdDone)
		answer := impl.Reply{Client: 1, Q: pair[0], Resp: impl.Resp{Status: 404}, Kind: impl.AnThere}
		checkSent(t, c, 0, answer, answer)
	}
	for _, pair := range [][2]impl.Req{{asks(), asks("a", "1")}, {asks("a", "1", "b", "2"), asks("b", "2", "a", "1")}, {asksIn("/a", "de"), asksIn("/b", "de")}, {asksIn("/a", "de"), asksIn("/a", "en")}, {asks(), saysIn("no-cache")}, {saysIn("no-store"), saysIn("no-store")}, {posts("/a"), posts("/a")}, {{Method: impl.MtHead, Path: "/a"}, {Method: impl.MtHead, Path: "/a"}}, {asks(), {Method: impl.MtHead, Path: "/a"}}} {
		c := checkDeed(t, impl.CacheNew(), askDeed(1, pair[0]), impl.CdDone)
		c = checkDeed(t, c, askDeed(2, pair[1]), impl.CdDone)
		if len(c.Flights) != 2 || !sameFlight(c.Flights[0], flies(pair[0], 1)) || !sameFlight(c.Flights[1], flies(pair[1], 2)) {
			t.Fatalf("there flies %s", inShort(c.Flights))
		}
	}
}

// What was kept when the flight began stays its Old, whoever joins.
func TestCacheAskJoinsWithAnotherOld(t *testing.T) {
	c := busy()
	c = checkDeed(t, c, askDeed(20, asksIn("/b", "de")), impl.CdDone)
	if !sameFlight(c.Flights[1], fliesFor(asksIn("/b", "de"), speaks("/b", "de", 3), 3, 20)) {
		t.Fatalf("there flies %s", inShort(c.Flights))
	}
	c = checkDeed(t, c, banDeed(banPath("/b", 0)), impl.CdDone)
	c = checkDeed(t, c, askDeed(21, asksIn("/b", "de")), impl.CdDone)
	if !sameFlight(c.Flights[1], fliesFor(asksIn("/b", "de"), speaks("/b", "de", 3), 3, 20, 21)) {
		t.Fatalf("there flies %s", inShort(c.Flights))
	}
	none := impl.CacheNew()
	none.Shelf = keptAll(speaks("/b", "de", 3))
	none.Now, none.Flights = 20, []impl.Flight{flies(asksIn("/b", "de"), 1)}
	none = checkDeed(t, none, askDeed(2, asksIn("/b", "de")), impl.CdDone)
	if !sameFlight(none.Flights[0], flies(asksIn("/b", "de"), 1, 2)) {
		t.Fatalf("there flies %s", inShort(none.Flights))
	}
}

func TestCacheAskManyFlights(t *testing.T) {
	c := impl.CacheNew()
	c.Now = 7
	for i := range 5 {
		q := []impl.Req{asks(), posts("/a"), saysIn("no-store"), asksIn("/b", "de"), posts("/a")}[i]
		c = checkDeed(t, c, askDeed(i, q), impl.CdDone)
		if len(c.Flights) != i+1 || len(c.Sent) != 0 || !sameFlight(c.Flights[i], flies(q, i)) {
			t.Fatalf("there flies %s", inShort(c.Flights))
		}
	}
	for i, q := range []impl.Req{asks("y", "1"), posts("/a"), saysIn("no-store"), {Method: impl.MtHead, Path: "/a"}} {
		c = checkDeed(t, c, askDeed(9, q), impl.CdDone)
		checkSent(t, c, i, impl.Reply{Client: 9, Q: q, Resp: impl.Resp{Status: 503}, Kind: impl.AnNot, T: 7})
		if len(c.Flights) != 5 {
			t.Fatalf("there flies %s", inShort(c.Flights))
		}
	}
	c = checkDeed(t, c, askDeed(9, asks()), impl.CdDone)
	if !slices.Equal(c.Flights[0].Who, []int{0, 9}) || len(c.Sent) != 4 {
		t.Fatalf("who is alike makes %s", inShort(c))
	}
}

func TestCacheAskWithWhatIsKept(t *testing.T) {
	b, p := speaks("/b", "de", 3), plain("/c", 4)
	for _, one := range []struct {
		q    impl.Req
		want impl.Flight
	}{
		{asks("lang", "de", "cache-control", "no-cache"), fliesFor(saysIn("no-cache"), speaks("/a", "de", 10), 7)},
		{impl.Req{Method: impl.MtGet, Path: "/b", Fields: fieldsOf("lang", "de", "y", "1"), Body: "x"}, fliesFor(impl.Req{Method: impl.MtGet, Path: "/b", Fields: fieldsOf("lang", "de", "y", "1"), Body: "x"}, b, 7)},
		{asksIn("/c", "en"), fliesFor(asksIn("/c", "en"), p, 7)},
		{asksIn("/b", "en"), flies(asksIn("/b", "en"), 7)}, {asks(), flies(asks(), 7)}, {asksIn("/d", "de"), flies(asksIn("/d", "de"), 7)},
		{saysIn("no-store"), flies(saysIn("no-store"), 7)}, {posts("/c"), flies(posts("/c"), 7)}, {impl.Req{Method: impl.MtHead, Path: "/c"}, flies(impl.Req{Method: impl.MtHead, Path: "/c"}, 7)},
	} {
		c := busy()
		got := checkDeed(t, c, askDeed(7, one.q), impl.CdDone)
		if len(got.Flights) != 4 || !sameFlight(got.Flights[3], one.want) || !slices.EqualFunc(got.Flights[:3], c.Flights, sameFlight) {
			t.Fatalf("who asks %s makes %s", inShort(one.q), inShort(got.Flights))
		}
		if checkSent(t, got, 2); !sameShelf(got.Shelf, c.Shelf) || len(got.Seen) != 2 || got.Now != 12 {
			t.Fatalf("who asks %s makes %s", inShort(one.q), inShort(got))
		}
	}
}

func TestCacheReplyThatIsNone(t *testing.T) {
	full := withLists(busy(), 1495, 1495)
	for i, r := range append(wrongResps(), impl.Resp{}, impl.Resp{Status: 304, Fields: fieldsOf("etag", "")}) {
		for _, at := range []int{math.MinInt, -1, 0, 1, 2, 3, math.MaxInt} {
			checkDeed(t, impl.CacheNew(), replyDeed(at, r), impl.CdBad)
			checkDeed(t, busy(), replyDeed(at, r), impl.CdBad)
			// The long lists take long to copy.
			if i%40 == 0 {
				checkDeed(t, full, replyDeed(at, r), impl.CdBad)
			}
		}
	}
}

func TestCacheReplyToNoFlight(t *testing.T) {
	for n := range 6 {
		c := busy()
		c.Flights = manyFlights(n)
		for _, at := range []int{math.MinInt, -n - 1, -2, -1, 0, 1, 2, 3, 4, 5, 6, 100, math.MaxInt} {
			code := impl.CdNone
			if 0 <= at && at < n {
				code = impl.CdDone
			}
			checkDeed(t, c, replyDeed(at, keepable(5)), code)
			checkDeed(t, c, replyDeed(at, same304()), code)
			checkDeed(t, c, failDeed(at), code)
			if code == impl.CdNone {
				full := withLists(c, 1500, 1500)
				checkDeed(t, full, replyDeed(at, keepable(5)), impl.CdNone)
				checkDeed(t, full, failDeed(at), impl.CdNone)
			}
		}
	}
}

func TestCacheReplyWhenMuchWasSeenAndSent(t *testing.T) {
	lengths := []int{0, 1493, 1494, 1495, 1496, 1499, 1500}
	for _, seen := range lengths {
		for _, sent := range lengths {
			code, failCode := impl.CdDone, impl.CdDone
			if seen >= 1495 || sent >= 1495 {
				code = impl.CdFull
			}
			if sent >= 1495 {
				failCode = impl.CdFull
			}
			c := withLists(busy(), seen, sent)
			c.Flights[0].Who = manyClients(5)
			for at := range 2 {
				checkDeed(t, c, replyDeed(at, keepable(5)), code)
				checkDeed(t, c, replyDeed(at, same304()), code)
				checkDeed(t, c, failDeed(at), failCode)
			}
		}
	}
}

// checkReplied does what the origin answers to the second of three flights,
// and tells what all who wait are answered.
func checkReplied(t *testing.T, c impl.Cache, f impl.Flight, r impl.Resp, kind int, want impl.Resp) impl.Cache {
	t.Helper()
	c.Flights = []impl.Flight{flies(posts("/1"), 1), f, flies(posts("/2"), 2)}
	got := checkDeed(t, c, replyDeed(1, r), impl.CdDone)
	var all []impl.Reply
	for _, client := range f.Who {
		all = append(all, impl.Reply{Client: client, Q: f.Q, Resp: want, Kind: kind, T: c.Now})
	}
	checkSent(t, got, len(c.Sent), all...)
	if len(got.Flights) != 2 || !sameFlight(got.Flights[0], c.Flights[0]) || !sameFlight(got.Flights[1], c.Flights[2]) {
		t.Fatalf("behind the reply there flies %s", inShort(got.Flights))
	}
	if len(got.Seen) != len(c.Seen)+1 || !sameSeen(got.Seen[len(c.Seen)], impl.Seen{Q: f.Q, Resp: r, T: c.Now}) || got.Now != c.Now {
		t.Fatalf("behind the reply there was seen %s", inShort(got.Seen))
	}
	return got
}

func TestCacheReplyThatMayBeKept(t *testing.T) {
	for n := 1; n <= 5; n++ {
		q := asks("lang", "en", "x", "1")
		r := tells("vary", "Lang", "cache-control", "max-age=9", "etag", "w")
		got := checkReplied(t, busy(), flies(q, manyClients(n)...), r, impl.AnThere, r)
		checkKnown(t, got.Shelf, 9, 5, 10, 3, 4, 12)
		if o := got.Shelf.Objs[3].Obj; !sameObj(o, impl.Obj{Path: "/a", Names: []string{"lang"}, Values: []string{"en"}, Resp: r, T: 12}) {
			t.Fatalf("%s is kept", inShort(o))
		}
		later := checkDeed(t, got, askDeed(9, asksIn("/a", "en")), impl.CdDone)
		if a := later.Sent[len(later.Sent)-1]; a.Kind != impl.AnHere || a.Obj.T != 12 || a.Resp.Body != "b" {
			t.Fatalf("it is answered %s", inShort(a))
		}
	}
}

// What the origin says is told as it is, also to who has it already.
func TestCacheReplyThatMayNotBeKept(t *testing.T) {
	for _, one := range []struct {
		q impl.Req
		r impl.Resp
	}{
		{asks(), impl.Resp{Status: 404, Fields: fieldsOf("cache-control", "max-age=5")}}, {asks(), tells()}, {asks(), tells("cache-control", "private, max-age=5")}, {asks(), tells("cache-control", "no-store,max-age=5")}, {asks(), tells("cache-control", "max-age=5", "vary", "*")}, {asks(), tells("cache-control", "max-age=5", "vary", "a,b,c,d,e")},
		{posts("/a"), keepable(5)}, {saysIn("no-store"), keepable(5)}, {impl.Req{Method: impl.MtHead, Path: "/a"}, keepable(5)}, {asks(), impl.Resp{Status: 599}}, {asks(), impl.Resp{Status: 100}}, {asks("if-none-match", "v1"), same304("etag", "v1", "cache-control", "max-age=5")},
	} {
		c := busy()
		got := checkReplied(t, c, flies(one.q, 7, 8), one.r, impl.AnThere, one.r)
		if !sameShelf(got.Shelf, c.Shelf) {
			t.Fatalf("of %s to %s there is kept %s", inShort(one.r), inShort(one.q), inShort(got.Shelf))
		}
		if one.r.Status != 304 {
			got = checkReplied(t, c, fliesFor(one.q, tagged(), 7, 8), one.r, impl.AnThere, one.r)
			if !sameShelf(got.Shelf, c.Shelf) {
				t.Fatalf("of %s to %s there is kept %s", inShort(one.r), inShort(one.q), inShort(got.Shelf))
			}
		}
	}
	// Who has the tag already is not told so by anybody but the origin.
	r := tells("cache-control", "max-age=5", "etag", "v1")
	checkReplied(t, busy(), flies(asks("if-none-match", "v1"), 7), r, impl.AnThere, r)
	// One that was kept is known on where another answer came that may not be.
	got := checkReplied(t, busy(), fliesFor(asksIn("/b", "de"), speaks("/b", "de", 3), 7), impl.Resp{Status: 503}, impl.AnThere, impl.Resp{Status: 503})
	checkKnown(t, got.Shelf, 8, 4, 10, 3, 4)
}

func TestCacheReplyThatBanOrNumberKeepsOut(t *testing.T) {
	r := keepable(5)
	for _, b := range []impl.Ban{banPath("/a", 12), banBelow("/", 1000000), banField("etag", "k", 12)} {
		c := busy()
		c.Shelf.Bans = []impl.Ban{b}
		got := checkReplied(t, c, flies(asks(), 7, 8), r, impl.AnThere, r)
		if !sameShelf(got.Shelf, c.Shelf) {
			t.Fatalf("with %s there is kept %s", inShort(b), inShort(got.Shelf))
		}
		// The merged one is answered with, though it is not kept.
		old := lies("/a", "cache-control", "max-age=5", "etag", "k")
		got = checkReplied(t, c, fliesFor(asks(), old, 7, 8), same304(), impl.AnSame, tells("cache-control", "max-age=5", "etag", "k", "age", "0"))
		if !sameShelf(got.Shelf, c.Shelf) {
			t.Fatalf("with %s there is kept %s", inShort(b), inShort(got.Shelf))
		}
		c.Shelf.Bans[0].T = 11
		got = checkReplied(t, c, flies(asks(), 7, 8), r, impl.AnThere, r)
		if len(got.Shelf.Objs) != 4 && b.Kind != impl.BnBelow {
			t.Fatalf("with %s there is kept %s", inShort(b), inShort(got.Shelf))
		}
	}
	c := busy()
	c.Shelf.Seq = impl.MaxSeq
	if got := checkReplied(t, c, flies(asks(), 7), r, impl.AnThere, r); !sameShelf(got.Shelf, c.Shelf) {
		t.Fatalf("there is kept %s", inShort(got.Shelf))
	}
}

func TestCacheReplySameThatIsKept(t *testing.T) {
	old := tagged()
	for _, one := range []struct {
		q    impl.Req
		r    impl.Resp
		kept []impl.Field
		want impl.Resp
	}{
		{asksIn("/a", "de"), same304(), old.Resp.Fields, impl.Resp{Status: 200, Fields: append(slices.Clone(old.Resp.Fields), fieldsOf("age", "0")...), Body: "body"}},
		{asksIn("/a", "de"), same304("cache-control", "max-age=9", "z", "3"), fieldsOf("x", "1", "vary", "lang", "etag", "v1", "y", "2", "cache-control", "max-age=9", "z", "3"), impl.Resp{Status: 200, Fields: fieldsOf("x", "1", "vary", "lang", "etag", "v1", "y", "2", "cache-control", "max-age=9", "z", "3", "age", "0"), Body: "body"}},
		{asksIn("/a", "de"), impl.Resp{Status: 304, Fields: fieldsOf("age", "3"), Body: "other"}, append(slices.Clone(old.Resp.Fields), fieldsOf("age", "3")...), impl.Resp{Status: 200, Fields: append(slices.Clone(old.Resp.Fields), fieldsOf("age", "3")...), Body: "body"}},
		{asks("lang", "de", "if-none-match", "v1"), same304("x", "7"), fieldsOf("x", "7", "vary", "lang", "etag", "v1", "y", "2", "cache-control", "max-age=5"), same304("vary", "lang", "etag", "v1", "cache-control", "max-age=5", "age", "0")},
		{asks("lang", "de", "if-none-match", "v1"), same304("etag", "v2"), fieldsOf("x", "1", "vary", "lang", "etag", "v2", "y", "2", "cache-control", "max-age=5"), impl.Resp{Status: 200, Fields: fieldsOf("x", "1", "vary", "lang", "etag", "v2", "y", "2", "cache-control", "max-age=5", "age", "0"), Body: "body"}},
		// The values are those of who asked, the names those of the merged one.
		{asks("lang", "fr"), same304("vary", "LANG"), fieldsOf("x", "1", "vary", "LANG", "etag", "v1", "y", "2", "cache-control", "max-age=5"), impl.Resp{Status: 200, Fields: fieldsOf("x", "1", "vary", "LANG", "etag", "v1", "y", "2", "cache-control", "max-age=5", "age", "0"), Body: "body"}},
	} {
		for n := 1; n <= 5; n++ {
			c := busy()
			got := checkReplied(t, c, fliesFor(one.q, old, manyClients(n)...), one.r, impl.AnSame, one.want)
			last := got.Shelf.Objs[len(got.Shelf.Objs)-1]
			value, _ := impl.Get(one.q.Fields, "lang")
			want := impl.Obj{Path: "/a", Names: []string{"lang"}, Values: []string{value}, Resp: impl.Resp{Status: 200, Fields: one.kept, Body: "body"}, T: 12}
			if !sameKept(last, knows(want, 8, 4)) {
				t.Fatalf("%s is kept, not %s", inShort(last), inShort(want))
			}
		}
	}
	// It takes the place of the one that was kept.
	got := checkReplied(t, busy(), fliesFor(asksIn("/b", "de"), speaks("/b", "de", 3), 3, 7), same304(), impl.AnSame, tells("cache-control", "max-age=5", "vary", "lang", "etag", "v3", "age", "0"))
	checkKnown(t, got.Shelf, 9, 5, 10, 4, 12)
	checkDecided(t, got.Shelf, asksIn("/b", "de"), 16, impl.DcHit, 12)
}

// Only the fields of who asked count, and the path of what was kept.
func TestCacheReplySameIsOfTheOldPath(t *testing.T) {
	old := tagged()
	for _, q := range []impl.Req{{Method: impl.MtGet, Path: "/other", Fields: fieldsOf("lang", "de"), Body: "x"}, {Method: impl.MtPost, Path: "/a", Fields: fieldsOf("lang", "de")}, {Method: impl.MtPurge, Path: "/x", Fields: fieldsOf("lang", "de")}} {
		got := checkReplied(t, busy(), fliesFor(q, old, 7), same304(), impl.AnSame, impl.Resp{Status: 200, Fields: append(slices.Clone(old.Resp.Fields), fieldsOf("age", "0")...), Body: "body"})
		checkDecided(t, got.Shelf, asksIn("/a", "de"), 12, impl.DcHit, 12)
	}
}

func TestCacheReplySameThatIsNotKept(t *testing.T) {
	old := tagged()
	merged := func(words ...string) impl.Resp {
		return mergeByHand(old.Resp, impl.Resp{Fields: fieldsOf(words...)})
	}
	many := old
	many.Resp.Fields = append(fieldsOf("vary", "lang"), manyFields(6)...)
	other := old
	other.Resp.Status = 404
	for _, one := range []struct {
		q    impl.Req
		old  impl.Obj
		r    impl.Resp
		want impl.Resp
	}{
		{asksIn("/a", "de"), old, same304("cache-control", "private, max-age=5"), merged("cache-control", "private, max-age=5")},
		{asksIn("/a", "de"), old, same304("cache-control", "no-store"), merged("cache-control", "no-store")},
		{asksIn("/a", "de"), old, same304("cache-control", "must-revalidate"), merged("cache-control", "must-revalidate")},
		{asksIn("/a", "de"), old, same304("vary", "*"), merged("vary", "*")},
		{asksIn("/a", "de"), old, same304("vary", "kind"), merged("vary", "kind")},
		{asksIn("/a", "de"), old, same304("vary", "lang,kind"), merged("vary", "lang,kind")},
		{asksIn("/a", "de"), old, same304("vary", ","), merged("vary", ",")},
		{saysIn("no-store"), old, same304(), old.Resp},
		{asks("lang", "de", "if-none-match", "v1", "cache-control", "no-store"), old, same304("z", "1"), merged("z", "1")},
		{asksIn("/a", "de"), other, same304("z", "1"), impl.Resp{Status: 404, Fields: append(slices.Clone(old.Resp.Fields), fieldsOf("z", "1")...), Body: "body"}},
		{asksIn("/a", "de"), many, same304("z", "1"), impl.Resp{Status: 200, Fields: append(slices.Clone(many.Resp.Fields), fieldsOf("z", "1")...), Body: "body"}},
		{asksIn("/a", "de"), many, same304("z", "1", "zz", "1"), many.Resp},
	} {
		c := busy()
		got := checkReplied(t, c, fliesFor(one.q, one.old, 7, 8, 9), one.r, impl.AnSame, one.want)
		if !sameShelf(got.Shelf, c.Shelf) {
			t.Fatalf("of %s there is kept %s", inShort(one.r), inShort(got.Shelf))
		}
	}
}

// Without one that was kept, or with another status, it is as any other.
func TestCacheReplySameWithoutOld(t *testing.T) {
	for _, r := range []impl.Resp{same304(), same304("cache-control", "max-age=5"), {Status: 304, Body: "b"}, {Status: 303}, {Status: 305}} {
		f := flies(asksIn("/a", "de"), 7, 8)
		f.Old = tagged()
		got := checkReplied(t, busy(), f, r, impl.AnThere, r)
		checkKnown(t, got.Shelf, 8, 4, 10, 3, 4)
		if f.HasOld = true; r.Status != 304 {
			checkReplied(t, busy(), f, r, impl.AnThere, r)
		}
	}
	// A 200 takes the place of what was kept, whatever it was asked for.
	r := tells("cache-control", "max-age=5", "vary", "lang", "etag", "n")
	got := checkReplied(t, busy(), fliesFor(asksIn("/b", "de"), speaks("/b", "de", 3), 7), r, impl.AnThere, r)
	checkKnown(t, got.Shelf, 9, 5, 10, 4, 12)
}

// In whatever order flights end, the others stay in theirs.
func TestCacheFlightsAreOverOneByOne(t *testing.T) {
	for _, order := range orders([]string{"/f0", "/f1", "/f2", "/f3", "/f4"}) {
		c := impl.CacheNew()
		c.Flights = manyFlights(5)
		for i, path := range order {
			at := slices.IndexFunc(c.Flights, func(f impl.Flight) bool { return f.Q.Path == path })
			d := failDeed(at)
			if i%2 == 0 {
				d = replyDeed(at, keepable(9))
			}
			who, sent, left := c.Flights[at].Who, len(c.Sent), slices.Delete(slices.Clone(c.Flights), at, at+1)
			c, _ = impl.CacheDo(c, d)
			if len(c.Sent) != sent+len(who) || !slices.EqualFunc(c.Flights, left, sameFlight) {
				t.Fatalf("behind %s there is %s", path, inShort(c))
			}
			for j, client := range who {
				if a := c.Sent[sent+j]; a.Client != client || a.Q.Path != path {
					t.Fatalf("behind %s there was answered %s", path, inShort(a))
				}
			}
		}
		if len(c.Flights) != 0 || len(c.Sent) != 15 || len(c.Seen) != 3 || len(c.Shelf.Objs) != 3 {
			t.Fatalf("in the end there is %s", inShort(c))
		}
	}
}

func TestCacheFail(t *testing.T) {
	for n := 1; n <= 5; n++ {
		for at := range 3 {
			c := busy()
			c.Flights[at].Who = manyClients(n)
			got := checkDeed(t, c, failDeed(at), impl.CdDone)
			var all []impl.Reply
			for _, client := range manyClients(n) {
				all = append(all, impl.Reply{Client: client, Q: c.Flights[at].Q, Resp: impl.Resp{Status: 504}, Kind: impl.AnNot, T: 12})
			}
			checkSent(t, got, 2, all...)
			left := slices.Delete(slices.Clone(c.Flights), at, at+1)
			if !slices.EqualFunc(got.Flights, left, sameFlight) || len(got.Seen) != 2 || !sameShelf(got.Shelf, c.Shelf) || got.Now != 12 {
				t.Fatalf("behind the fail there is %s", inShort(got))
			}
		}
	}
	// What the deed says beyond the flight is not looked at.
	checkDeed(t, busy(), impl.Deed{Kind: impl.CaFail, A: 1, Client: -1, Q: impl.Req{Method: -1}, Resp: impl.Resp{Status: -1}, Ban: impl.Ban{Kind: -1}, Keep: []bool{true}}, impl.CdDone)
	checkDeed(t, withLists(busy(), 1500, 1494), failDeed(0), impl.CdDone)
}

func TestCacheTick(t *testing.T) {
	for _, one := range []struct{ now, a, code, after int }{
		{0, 0, 0, 0}, {0, 1, 0, 1}, {0, 1000000, 0, 1000000}, {0, 1000001, 1, 0}, {0, -1, 1, 0}, {0, math.MinInt, 1, 0}, {0, math.MaxInt, 1, 0},
		{12, 0, 0, 12}, {12, 7, 0, 19}, {12, 999988, 0, 1000000}, {12, 999989, 1, 12}, {12, -1, 1, 12}, {12, -12, 1, 12}, {12, math.MaxInt, 1, 12}, {12, math.MaxInt - 11, 1, 12}, {12, math.MaxInt - 12, 1, 12}, {12, math.MinInt, 1, 12},
		{1000000, 0, 0, 1000000}, {1000000, 1, 1, 1000000}, {1000000, -1, 1, 1000000}, {1000000, math.MaxInt, 1, 1000000}, {999999, 1, 0, 1000000}, {999999, 2, 1, 999999},
	} {
		for _, c := range []impl.Cache{busy(), withLists(busy(), 1500, 1500)} {
			c.Now = one.now
			got := checkDeed(t, c, tickDeed(one.a), one.code)
			if c.Now = one.after; !sameCache(got, c) {
				t.Fatalf("%d behind %d it is %s", one.a, one.now, inShort(got))
			}
		}
	}
}

// The time that a ban tells is not the time at which it is done.
func TestCacheBan(t *testing.T) {
	for _, at := range append(anyTimes(), math.MinInt, -1, 0, 9, 10, 12, 1000001, math.MaxInt) {
		c := busy()
		got := checkDeed(t, c, banDeed(banPath("/a", at)), impl.CdDone)
		if !slices.Equal(got.Shelf.Bans, []impl.Ban{banPath("/a", 12)}) || len(got.Flights) != 3 || len(got.Sent) != 2 || len(got.Seen) != 2 || got.Now != 12 {
			t.Fatalf("behind a ban at %d there is %s", at, inShort(got))
		}
		checkKnown(t, got.Shelf, 8, 5, 3, 4)
	}
	for _, one := range []struct {
		b    impl.Ban
		came []int
	}{{banBelow("/", 0), nil}, {banBelow("/b", 0), []int{10, 4}}, {banField("etag", "v4", 0), []int{10, 3}}, {banField("vary", "lang", 0), []int{4}}, {banPath("/none", 0), []int{10, 3, 4}}} {
		got := checkDeed(t, busy(), banDeed(one.b), impl.CdDone)
		checkKnown(t, got.Shelf, 8, 5, one.came...)
		if len(got.Shelf.Disk.Pending) != 0 {
			t.Fatalf("behind a ban there is pending %s", inShort(got.Shelf.Disk))
		}
	}
	checkDeed(t, withLists(busy(), 1500, 1500), banDeed(banPath("/a", 0)), impl.CdDone)
}

func TestCacheBanThatCantBeDone(t *testing.T) {
	c := busy()
	for i := range 8 {
		code := impl.CdDone
		if i >= 5 {
			code = impl.CdFull
		}
		c = checkDeed(t, c, banDeed(banPath(fmt.Sprintf("/%d", i), 0)), code)
		if len(c.Shelf.Bans) != min(i+1, 5) {
			t.Fatalf("there are the bans %s", inShort(c.Shelf.Bans))
		}
	}
	for _, b := range wrongBans() {
		code := impl.CdFull
		// Of some the time alone is wrong, which is not theirs to tell.
		if b.T = 12; banOkByHand(b) {
			code = impl.CdDone
		}
		b.T = -1
		checkDeed(t, busy(), banDeed(b), code)
	}
	for _, seq := range []int{impl.MaxSeq - 1, impl.MaxSeq} {
		c := busy()
		c.Shelf.Seq = seq
		code := impl.CdDone
		if seq == impl.MaxSeq {
			code = impl.CdFull
		}
		checkDeed(t, c, banDeed(banPath("/a", 0)), code)
	}
}

func TestCacheSync(t *testing.T) {
	for _, c := range append(rightCaches(), withLists(busy(), 1500, 1500)) {
		got := checkDeed(t, c, syncDeed(), impl.CdDone)
		if len(got.Shelf.Disk.Pending) != 0 || !sameDisk(got.Shelf.Disk, flushByHand(c.Shelf.Disk)) {
			t.Fatalf("behind a sync there lies %s", inShort(got.Shelf.Disk))
		}
		if got.Shelf.Disk = c.Shelf.Disk; !sameCache(got, c) {
			t.Fatalf("a sync turns %s into %s", inShort(c), inShort(got))
		}
	}
	// What was synced is known behind a crash, what was not is not.
	c := busy()
	checkKnown(t, checkDeed(t, c, crashDeed(), impl.CdDone).Shelf, 5, 1)
	c = checkDeed(t, c, syncDeed(), impl.CdDone)
	checkKnown(t, checkDeed(t, c, crashDeed(), impl.CdDone).Shelf, 8, 4, 10, 3, 4)
}

func TestCacheCrash(t *testing.T) {
	came := []int{10, 3, 4}
	for _, keep := range append(keepsOf(4), slices.Repeat([]bool{true}, 20)) {
		c := busy()
		got := checkDeed(t, c, crashDeed(keep...), impl.CdDone)
		var want []int
		next, seq := 5, 1
		for i, one := range came {
			if i < len(keep) && keep[i] {
				want, next, seq = append(want, one), 6+i, 2+i
			}
		}
		checkKnown(t, got.Shelf, next, seq, want...)
		if len(got.Flights) != 0 || len(got.Shelf.Disk.Pending) != 0 || got.Now != 12 || !slices.EqualFunc(got.Sent, c.Sent, sameReply) || !slices.EqualFunc(got.Seen, c.Seen, sameSeen) {
			t.Fatalf("behind a crash there is %s", inShort(got))
		}
	}
	for _, keep := range someKeeps() {
		for _, c := range rightCaches() {
			checkDo(t, c, crashDeed(keep...))
		}
	}
	checkDeed(t, withLists(busy(), 1500, 1500), crashDeed(), impl.CdDone)
}

// A ban outlives any crash, and nobody is answered with what it hit.
func TestCacheCrashBehindABan(t *testing.T) {
	for _, keep := range keepsOf(5) {
		c, codes := checkRun(t, busy(), []impl.Deed{banDeed(banPath("/a", 0)), replyDeed(0, keepable(5)), replyDeed(0, tells("cache-control", "max-age=5")), crashDeed(keep...), askDeed(30, asksIn("/a", "de")), askDeed(31, asksIn("/b", "de"))})
		if slices.Max(codes) != impl.CdDone || !slices.Equal(c.Shelf.Bans, []impl.Ban{banPath("/a", 12)}) || !sameFlight(c.Flights[0], flies(asksIn("/a", "de"), 30)) {
			t.Fatalf("behind a crash there is %s", inShort(c))
		}
	}
}

func TestCacheRun(t *testing.T) {
	q, r := asks(), keepable(5)
	list := []impl.Deed{askDeed(1, q), askDeed(2, impl.Req{}), askDeed(3, q), {Kind: 9}, replyDeed(1, r), replyDeed(0, impl.Resp{}), tickDeed(-1), replyDeed(0, r), {}, tickDeed(4), askDeed(4, q), tickDeed(1), askDeed(5, q), failDeed(7), replyDeed(0, same304()), banDeed(impl.Ban{}), syncDeed(), askDeed(6, purges("/a")), crashDeed(), askDeed(7, q), failDeed(0)}
	c, codes := checkRun(t, impl.CacheNew(), list)
	if !slices.Equal(codes, []int{0, 1, 0, 1, 2, 1, 1, 0, 1, 0, 0, 0, 0, 2, 0, 3, 0, 0, 0, 0, 0}) {
		t.Fatalf("the codes are %v", codes)
	}
	var told []string
	for _, a := range c.Sent {
		told = append(told, fmt.Sprintf("%d:%d:%d@%d", a.Client, a.Kind, a.Resp.Status, a.T))
	}
	if text := strings.Join(told, " "); text != "1:2:200@0 3:2:200@0 4:1:200@4 5:3:200@5 6:4:200@5 7:4:504@5" {
		t.Fatalf("there was answered %s", text)
	}
	if c.Now != 5 || len(c.Flights) != 0 || len(c.Seen) != 2 || len(c.Shelf.Objs) != 0 || !slices.Equal(c.Shelf.Bans, []impl.Ban{banPath("/a", 5)}) {
		t.Fatalf("in the end there is %s", inShort(c))
	}
}

func TestCacheRunManyDeeds(t *testing.T) {
	for _, n := range []int{0, 1, 2, 199, 200, 201, 202, 1000} {
		for _, c := range []impl.Cache{impl.CacheNew(), busy()} {
			got, codes := checkRun(t, c, slices.Repeat([]impl.Deed{tickDeed(1)}, n))
			if done := len(codes) == n; done != (n <= 200) || !done && len(codes) != 0 {
				t.Fatalf("of %d there are done %d", n, len(codes))
			}
			if n <= 200 {
				c.Now += n
			}
			if !sameCache(got, c) {
				t.Fatalf("behind %d there is %s", n, inShort(got))
			}
			checkRun(t, c, slices.Repeat([]impl.Deed{{Kind: 9}}, n))
		}
	}
	for _, c := range rightCaches() {
		for _, list := range [][]impl.Deed{nil, {}} {
			if got, codes := checkRun(t, c, list); len(codes) != 0 || !sameCache(got, c) {
				t.Fatalf("nothing makes %s of %s", inShort(got), inShort(c))
			}
		}
	}
}

func TestCacheRunOfWhatIsNone(t *testing.T) {
	for _, c := range wrongCaches() {
		for _, list := range [][]impl.Deed{nil, {tickDeed(1)}, someDeeds(), slices.Repeat([]impl.Deed{tickDeed(1)}, 201)} {
			if got, codes := checkRun(t, c, list); len(codes) != 0 || !sameCache(got, c) {
				t.Fatalf("CacheRun(%s, ..) = %s, %v", inShort(c), inShort(got), codes)
			}
		}
	}
}

func TestCacheRunUpToFullLists(t *testing.T) {
	// Each of these is answered at once, up to the last one that may be.
	c := withLists(busy(), 0, 1400)
	got, codes := checkRun(t, c, slices.Repeat([]impl.Deed{askDeed(7, asksIn("/a", "de"))}, 100))
	for i, code := range codes {
		if (code == impl.CdDone) != (i < 95) || code != impl.CdDone && code != impl.CdFull {
			t.Fatalf("the %d. is told %d", i, code)
		}
	}
	if len(got.Sent) != 1495 {
		t.Fatalf("there were answered %d", len(got.Sent))
	}
	got, codes = checkRun(t, withLists(busy(), 1494, 1494), []impl.Deed{askDeed(21, asks("x", "1")), askDeed(22, asks("x", "1")), askDeed(23, asks("x", "1")), replyDeed(0, keepable(5)), failDeed(0), replyDeed(0, keepable(5)), askDeed(24, asks())})
	if !slices.Equal(codes, []int{0, 0, 0, 0, 3, 3, 3}) || len(got.Sent) != 1499 || len(got.Seen) != 1495 {
		t.Fatalf("there were answered %d, with the codes %v", len(got.Sent), codes)
	}
}

// deedRow tells deeds by a row of numbers, of all kinds, as they may follow
// each other.
func deedRow(number uint32, n int) []impl.Deed {
	next := func(below int) int {
		number = number*1664525 + 1013904223
		return int(number>>8) % below
	}
	var list []impl.Deed
	for client := range n {
		switch kind := next(60); {
		case kind < 24:
			q := impl.Req{Method: impl.MtGet, Path: fmt.Sprintf("/%d", next(3))}
			q.Fields = [][]impl.Field{nil, fieldsOf("lang", "de"), fieldsOf("lang", "en"), fieldsOf("lang", "de", "cache-control", "no-cache"), fieldsOf("cache-control", "no-store"), fieldsOf("if-none-match", "v1")}[next(6)]
			q.Method = []int{1, 1, 1, 1, 1, 1, 2, 3}[next(8)]
			list = append(list, askDeed(client, q))
		case kind < 46:
			r := tells("cache-control", fmt.Sprintf("max-age=%d", next(9)), "etag", fmt.Sprintf("v%d", next(3)))
			switch next(6) {
			case 0:
				r = same304()
			case 1:
				r = same304("vary", "lang")
			case 2:
				r.Fields = append(r.Fields, fieldsOf("vary", "lang")...)
			case 3:
				r.Status = []int{404, 500, 99}[next(3)]
			}
			r.Body = fmt.Sprint("b", client)
			list = append(list, replyDeed(next(4)-next(2), r))
		case kind < 48:
			list = append(list, failDeed(next(6)))
		case kind < 54:
			list = append(list, tickDeed(next(5)-1))
		case kind < 55:
			list = append(list, banDeed([]impl.Ban{banPath(fmt.Sprintf("/%d", next(5)), 0), banBelow("/3", 0), banField("etag", "v2", 0), {}}[next(4)]))
		case kind < 56:
			list = append(list, askDeed(client, purges(fmt.Sprintf("/%d", next(5)))))
		case kind < 57:
			list = append(list, syncDeed())
		case kind < 58:
			keep := make([]bool, next(9))
			for i := range keep {
				keep[i] = next(2) > 0
			}
			list = append(list, crashDeed(keep...))
		case kind < 59:
			list = append(list, askDeed(client, impl.Req{}))
		default:
			list = append(list, impl.Deed{Kind: 8 + next(3)})
		}
	}
	return list
}

// eachShortRun sees a cache, and what becomes of it by each row of at most left
// of these deeds, each of another client.
func eachShortRun(c impl.Cache, deeds []impl.Deed, left int, see func(c impl.Cache, left int)) {
	see(c, left)
	if left == 0 {
		return
	}
	for _, d := range deeds {
		d.Client = left
		if after, code := impl.CacheDo(c, d); code == impl.CdDone {
			eachShortRun(after, deeds, left-1, see)
		}
	}
}

func TestCacheRunInTwoHalves(t *testing.T) {
	for number := range uint32(20) {
		list := deedRow(number, 120)
		for _, c := range []impl.Cache{impl.CacheNew(), busy(), withLists(busy(), 1480, 1480)} {
			whole, codes := checkRun(t, c, list)
			for at := 0; at <= len(list); at += 17 {
				first, firstCodes := impl.CacheRun(c, list[:at])
				second, secondCodes := impl.CacheRun(first, list[at:])
				if !sameCache(second, whole) || !slices.Equal(slices.Concat(firstCodes, secondCodes), codes) {
					t.Fatalf("in halves of %d there is %s, not %s", at, inShort(second), inShort(whole))
				}
			}
		}
	}
}

func TestCachesOfAnyBytes(t *testing.T) {
	for _, text := range fewOdd() {
		for _, q := range []impl.Req{asksIn("/"+text, "de"), asksIn(text, "de"), asksIn("/a", text), asks(text, "de"), saysIn(text), saysIn("no-store" + text), {Method: impl.MtGet, Path: "/a", Fields: fieldsOf("lang", "x"+text), Body: text}, purges("/" + text), posts(text)} {
			c, _ := checkDo(t, busy(), askDeed(1, q))
			c, _ = checkDo(t, c, askDeed(2, q))
			for _, r := range []impl.Resp{tells("cache-control", "max-age=5"+text), tells("cache-control", "max-age=5", "vary", text), tells("cache-control", "max-age=5", text, "x"), {Status: 200, Fields: fieldsOf("cache-control", "max-age=5", "vary", "lang", "etag", "x"+text), Body: text}, same304("etag", text)} {
				after, _ := checkDo(t, c, replyDeed(3, r))
				checkDo(t, after, askDeed(3, q))
			}
		}
		checkDo(t, busy(), replyDeed(1, same304(text, "x")))
		checkDo(t, busy(), replyDeed(1, same304("vary", text)))
		checkDo(t, busy(), replyDeed(1, same304("cache-control", "max-age=9"+text)))
		for _, b := range []impl.Ban{banPath("/"+text, 0), banBelow(text, 0), banField(text, "x", 0), banField("etag", text, 0), {Kind: impl.BnPath, A: "/a", B: text}} {
			checkDo(t, busy(), banDeed(b))
		}
		c := busy()
		c.Flights[0].Q.Path, c.Seen[0].Q.Path, c.Sent[0].Resp.Body, c.Shelf.Disk.Cells[7] = "/"+text, text, text, text
		checkCacheOk(t, c, cacheOkByHand(c))
		checkDo(t, c, failDeed(0))
		checkRun(t, c, []impl.Deed{failDeed(0), crashDeed(true)})
	}
}

// parts goes through all that a value is made of, and the room behind its
// lists.
func parts(v reflect.Value, see func(part reflect.Value)) {
	see(v)
	switch v.Kind() {
	case reflect.Struct:
		for i := range v.NumField() {
			parts(v.Field(i), see)
		}
	case reflect.Slice:
		whole := v.Slice(0, v.Cap())
		for i := range whole.Len() {
			parts(whole.Index(i), see)
		}
	}
}

func partsText(v any) string {
	var out strings.Builder
	parts(reflect.ValueOf(v), func(part reflect.Value) {
		switch part.Kind() {
		case reflect.Slice:
			fmt.Fprintf(&out, "%d/%d ", part.Len(), part.Cap())
		case reflect.Struct:
			out.WriteString("; ")
		default:
			fmt.Fprintf(&out, "%q ", fmt.Sprint(part.Interface()))
		}
	})
	return out.String()
}

func partsTextsAndSpans(v any) (texts []string, spans []span) {
	parts(reflect.ValueOf(v), func(part reflect.Value) {
		switch part.Kind() {
		case reflect.Slice:
			spans = append(spans, span{part.Pointer(), part.Pointer() + uintptr(part.Cap())*part.Type().Elem().Size()})
		case reflect.String:
			texts = append(texts, part.String())
		}
	})
	return texts, spans
}

func turnParts(v any) {
	parts(reflect.ValueOf(v), func(part reflect.Value) {
		switch {
		case !part.CanSet():
		case part.Kind() == reflect.String:
			part.SetString("turned")
		case part.Kind() == reflect.Int:
			part.SetInt(-7)
		case part.Kind() == reflect.Bool:
			part.SetBool(!part.Bool())
		}
	})
}

// roomy copies all that a value is made of, with room behind its lists.
func roomy[T any](v T) T { return roomyPart(reflect.ValueOf(v)).Interface().(T) }

func roomyPart(v reflect.Value) reflect.Value {
	out := reflect.New(v.Type()).Elem()
	switch v.Kind() {
	case reflect.Struct:
		for i := range v.NumField() {
			out.Field(i).Set(roomyPart(v.Field(i)))
		}
	case reflect.Slice:
		out.Set(reflect.MakeSlice(v.Type(), v.Len(), v.Len()+7))
		for i := range v.Len() {
			out.Index(i).Set(roomyPart(v.Index(i)))
		}
	case reflect.String:
		out.SetString(strings.Clone(v.String()))
	default:
		out.Set(v)
	}
	return out
}

// movedCaches are few, but of all kinds.
func movedCaches() []impl.Cache {
	late, _ := impl.CacheRun(impl.CacheNew(), deedRow(3, 60))
	later, _ := impl.CacheRun(busy(), deedRow(5, 90))
	banned := busy()
	banned.Shelf.Bans = manyBans(4)
	full := busy()
	full.Flights = manyFlights(5)
	all := []impl.Cache{impl.CacheNew(), busy(), late, later, banned, full, {}}
	return append(all, wrongCaches()[len(wrongCaches())-9:len(wrongCaches())-2]...)
}

func TestCachesAreNotWrittenInto(t *testing.T) {
	for _, was := range movedCaches() {
		for _, wasDeed := range someDeeds() {
			c, d := roomy(was), roomy(wasDeed)
			list := roomy([]impl.Deed{wasDeed, askDeed(30, asks("x", "1")), askDeed(31, asksIn("/a", "de")), wasDeed, replyDeed(0, keepable(5)), failDeed(0)})
			before, beforeDeed, beforeList := partsText(c), partsText(d), partsText(list)
			impl.CacheOk(c)
			one, _ := checkDo(t, c, d)
			run, codes := checkRun(t, c, list)
			turnParts(one)
			turnParts(run)
			turnParts(codes)
			if partsText(c) != before || partsText(d) != beforeDeed || partsText(list) != beforeList {
				t.Fatalf("%s or %s was written into, or its room: %s, %s", inShort(was), inShort(wasDeed), inShort(c), inShort(list))
			}
		}
	}
}

func TestCachesAreNewMemory(t *testing.T) {
	for _, was := range movedCaches() {
		for i, wasDeed := range someDeeds() {
			c, list := roomy(was), roomy([]impl.Deed{wasDeed, askDeed(30, asks("x", "1")), wasDeed, replyDeed(0, keepable(5)), askDeed(31, asksIn("/3", "de"))})
			givenTexts, given := partsTextsAndSpans(struct {
				C    impl.Cache
				List []impl.Deed
			}{c, list})
			one, _ := impl.CacheDo(c, list[0])
			run, codes := impl.CacheRun(c, list)
			if i%7 == 0 {
				run, codes = impl.CacheRun(c, nil)
			}
			for _, answer := range []any{one, struct {
				C     impl.Cache
				Codes []int
			}{run, codes}} {
				texts, told := partsTextsAndSpans(answer)
				for j, one := range told {
					if slices.ContainsFunc(told[:j], one.meets) || slices.ContainsFunc(given, one.meets) {
						t.Fatalf("a list of %s shares memory with another one", inShort(answer))
					}
				}
				for _, text := range texts {
					if slices.ContainsFunc(givenTexts, func(argument string) bool { return shares(text, argument) }) {
						t.Fatalf("%q of %s shares memory with an argument", text, inShort(answer))
					}
				}
			}
			runtime.KeepAlive(c)
			runtime.KeepAlive(list)
		}
	}
}

// Those that go on from one cache go on beside each other.
func TestCachesBesideEachOther(t *testing.T) {
	for _, was := range movedCaches() {
		c := roomy(was)
		var got, want []impl.Cache
		for _, d := range someDeeds() {
			one, _ := impl.CacheDo(c, d)
			run, _ := impl.CacheRun(c, []impl.Deed{d, askDeed(40, asks("x", "1")), d})
			got = append(got, one, run)
			one, _ = cacheDoByHand(was, d)
			run, _ = cacheRunByHand(was, []impl.Deed{d, askDeed(40, asks("x", "1")), d})
			want = append(want, one, run)
		}
		for i := range got {
			if !sameCache(got[i], want[i]) {
				t.Fatalf("of %s there is %s, not %s", inShort(was), inShort(got[i]), inShort(want[i]))
			}
		}
	}
}

// originAsked tells how many flights there are that are alike with this one.
func originAsked(c impl.Cache, q impl.Req) int {
	n := 0
	for _, f := range c.Flights {
		if alikeByHand(f.Q, q) {
			n++
		}
	}
	return n
}

// cacheRow does deeds one by one, and holds each to what promise 16 says.
func cacheRow(t *testing.T, c impl.Cache, list []impl.Deed, told map[[2]int]int) impl.Cache {
	t.Helper()
	for _, d := range list {
		after, code := checkDo(t, c, d)
		told[[2]int{min(d.Kind, 8), code}]++
		if code != impl.CdDone {
			if d.Kind <= impl.CaCrash && !sameCache(after, c) {
				t.Fatalf("refused %s turns %s into %s", inShort(d), inShort(c), inShort(after))
			}
			run, codes := impl.CacheRun(c, []impl.Deed{d})
			if !slices.Equal(codes, []int{code}) || !sameCache(run, c) {
				t.Fatalf("refused %s turns %s into %s, %v", inShort(d), inShort(c), inShort(run), codes)
			}
			continue
		}
		for _, f := range after.Flights {
			if n := originAsked(after, f.Q); n > 1 {
				t.Fatalf("behind %s the origin is asked %d times for %s", inShort(d), n, inShort(f.Q))
			}
		}
		if d.Kind == impl.CaAsk && originAsked(c, d.Q) == 1 && len(after.Flights) != len(c.Flights) {
			t.Fatalf("%s is asked for once more", inShort(d.Q))
		}
		checkCacheOk(t, after, true)
		c = after
	}
	return c
}

func TestPromise16OverLongRuns(t *testing.T) {
	told := map[[2]int]int{}
	kinds := map[int]int{}
	for number := range uint32(25) {
		c := impl.CacheNew()
		switch number % 5 {
		case 1:
			c = withLists(c, 1460, 0)
		case 2:
			c = withLists(c, 0, 1475)
		case 3:
			c.Now, c.Shelf.Seq = 999980, impl.MaxSeq-20
		}
		was := len(c.Sent)
		c = cacheRow(t, c, deedRow(number, 150), told)
		for _, a := range c.Sent[was:] {
			kinds[a.Kind]++
		}
	}
	for _, one := range [][2]int{{1, 0}, {1, 1}, {1, 3}, {2, 0}, {2, 1}, {2, 2}, {2, 3}, {3, 0}, {3, 2}, {3, 3}, {4, 0}, {4, 1}, {5, 0}, {5, 3}, {6, 0}, {7, 0}, {8, 1}} {
		if told[one] == 0 {
			t.Errorf("of kind %d the code %d is never told", one[0], one[1])
		}
	}
	for kind := impl.AnHere; kind <= impl.AnNot; kind++ {
		if kinds[kind] < 20 {
			t.Errorf("only %d are answered as %d", kinds[kind], kind)
		}
	}
}

// However many ask alike, while one is on its way, the origin is asked one, and
// all who wait are told the same.
func TestPromise16AlikeAreOneForTheOrigin(t *testing.T) {
	for _, q := range []impl.Req{asks(), asksIn("/b", "de"), saysIn("no-cache"), asks("if-none-match", "v1"), {Method: impl.MtGet, Path: "/a", Body: "x"}} {
		for _, r := range []impl.Resp{keepable(5), {Status: 404}, same304(), tells()} {
			for n := 1; n <= 8; n++ {
				c := busy()
				for client := range n {
					c = checkDeed(t, c, askDeed(60+client, q), impl.CdDone)
					if originAsked(c, q) != 1 {
						t.Fatalf("the origin is asked %d times", originAsked(c, q))
					}
				}
				at := slices.IndexFunc(c.Flights, func(f impl.Flight) bool { return alikeByHand(f.Q, q) })
				waiting := len(c.Flights[at].Who)
				refused := len(c.Sent) - 2
				c = checkDeed(t, c, replyDeed(at, r), impl.CdDone)
				first := c.Sent[2+refused]
				for _, a := range c.Sent[2+refused:] {
					if a.Kind == impl.AnNot || a.Kind != first.Kind || !sameResp(a.Resp, first.Resp) {
						t.Fatalf("there was answered %s", inShort(a))
					}
				}
				if len(c.Seen) != 3 || len(c.Sent) != 2+refused+waiting || originAsked(c, q) != 0 {
					t.Fatalf("in the end there is %s", inShort(c))
				}
			}
		}
	}
}

func TestPromise16CachesAnswerAnything(t *testing.T) {
	long := strings.Repeat("x", 20000)
	odd := impl.Obj{Path: long, Names: make([]string, 100), Values: make([]string, 100), Resp: impl.Resp{Status: math.MinInt, Fields: make([]impl.Field, 100), Body: long}, T: math.MaxInt}
	asked := impl.Req{Method: math.MinInt, Path: long, Fields: make([]impl.Field, 1000), Body: long}
	told := impl.Resp{Status: math.MaxInt, Fields: make([]impl.Field, 1000), Body: long}
	wide := busy()
	wide.Flights = slices.Repeat([]impl.Flight{{Q: asked, Who: make([]int, 1000), Old: odd}}, 300)
	much := impl.Cache{Shelf: impl.Shelf{Objs: make([]impl.Kept, 1000)}, Flights: make([]impl.Flight, 1000), Now: math.MinInt, Seen: make([]impl.Seen, 5000), Sent: make([]impl.Reply, 5000)}
	strange := busy()
	strange.Seen, strange.Sent = []impl.Seen{{Q: asked, Resp: told, T: math.MinInt}}, []impl.Reply{{Client: math.MinInt, Q: asked, Resp: told, Kind: -9, T: math.MaxInt, Obj: odd, Bans: -9}}
	strange.Flights[0].Old, strange.Flights[0].Who = odd, []int{math.MinInt, math.MaxInt}
	for _, c := range []impl.Cache{{}, wide, much, strange} {
		for kind := -1; kind <= 9; kind++ {
			for _, a := range []int{math.MinInt, -1, 0, 1, math.MaxInt} {
				d := impl.Deed{Kind: kind, Client: math.MinInt, Q: asked, A: a, Resp: told, Ban: impl.Ban{Kind: math.MinInt, A: long, B: long, T: math.MaxInt}, Keep: make([]bool, 1000)}
				checkDo(t, c, d)
				d.Q, d.Resp, d.Ban = asks(), keepable(5), banPath("/a", math.MinInt)
				checkDo(t, c, d)
				checkRun(t, c, []impl.Deed{d, d})
			}
		}
		checkRun(t, c, make([]impl.Deed, 201))
	}
}
