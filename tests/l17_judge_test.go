package tests

import (
	"fmt"
	"math"
	"slices"
	"strings"
	"testing"

	"loop.example/g00239/impl"
)

type verdict struct{ here, bans, once, disk, all bool }

// lacks is that all is well but for these.
func lacks(judges ...string) verdict {
	well := func(judge string) bool { return !slices.Contains(judges, judge) }
	return verdict{well("here"), well("bans"), well("once"), well("disk"), well("here") && well("bans") && well("disk")}
}

func placeByHand(list []impl.Seen, o impl.Obj) int {
	place := -1
	for i, one := range list {
		right := one.Resp.Status == 200 && one.T <= o.T && one.Q.Method == 1 && one.Q.Path == o.Path
		if right && one.Resp.Body == o.Resp.Body && suitsByHand(o.Names, o.Values, one.Q.Fields) {
			place = i
		}
	}
	return place
}

func comesByHand(c impl.Cache, a impl.Reply) int {
	if !cacheOkByHand(c) {
		return -1
	}
	return placeByHand(c.Seen, a.Obj)
}

func hereByHand(c impl.Cache) bool {
	for _, a := range c.Sent {
		said := controlByHand(a.Q.Fields)
		right := a.Q.Method == 1 && !said.NoCache && !said.NoStore && a.Q.Path == a.Obj.Path && suitsByHand(a.Obj.Names, a.Obj.Values, a.Q.Fields)
		right = right && freshByHand(a.Obj.Resp.Fields, a.Obj.T, a.T) && sameResp(a.Resp, answerByHand(a.Q, a.Obj, a.T)) && placeByHand(c.Seen, a.Obj) >= 0
		if a.Kind == 1 && !right {
			return false
		}
	}
	return true
}

func bansByHand(c impl.Cache) bool {
	for i, b := range c.Shelf.Bans {
		for _, a := range c.Sent {
			if a.Kind == 1 && i < a.Bans && hitsByHand(b, a.Obj) {
				return false
			}
		}
		for _, one := range c.Shelf.Objs {
			if hitsByHand(b, one.Obj) {
				return false
			}
		}
	}
	return true
}

func onceByHand(c impl.Cache) bool {
	places := map[int]int{}
	for _, a := range c.Sent {
		places[a.Client]++
	}
	for _, f := range c.Flights {
		for _, client := range f.Who {
			places[client]++
		}
	}
	for _, n := range places {
		if n > 1 {
			return false
		}
	}
	return true
}

func diskByHand(c impl.Cache) bool {
	flushed, lost := mountByHand(flushByHand(c.Shelf.Disk)), mountByHand(crashByHand(c.Shelf.Disk, nil))
	for _, one := range c.Shelf.Objs {
		if !slices.ContainsFunc(flushed.Objs, func(other impl.Kept) bool { return sameKept(one, other) }) {
			return false
		}
	}
	return slices.Equal(flushed.Bans, c.Shelf.Bans) && slices.Equal(lost.Bans, c.Shelf.Bans)
}

func verdictByHand(c impl.Cache) verdict {
	if !cacheOkByHand(c) {
		return verdict{}
	}
	v := verdict{here: hereByHand(c), bans: bansByHand(c), once: onceByHand(c), disk: diskByHand(c)}
	v.all = v.here && v.bans && v.disk
	return v
}

func verdictOf(c impl.Cache) verdict {
	return verdict{impl.JudgeHere(c), impl.JudgeBans(c), impl.JudgeOnce(c), impl.JudgeDisk(c), impl.JudgeAll(c)}
}

func checkComes(t *testing.T, c impl.Cache, a impl.Reply, want int) {
	t.Helper()
	if got := impl.Comes(c, a); got != want || comesByHand(c, a) != want {
		t.Fatalf("Comes(%s, %s) = %d, not %d (by hand %d)", inShort(c.Seen), inShort(a), got, want, comesByHand(c, a))
	}
}

// checkJudges tells what the judges say, of a cache of which that is known by
// the model alone.
func checkJudges(t *testing.T, c impl.Cache) verdict {
	t.Helper()
	got, want := verdictOf(c), verdictByHand(c)
	if got != want {
		t.Fatalf("%s is judged %+v, not %+v", inShort(c), got, want)
	}
	if n := len(c.Sent); n > 0 {
		checkComes(t, c, c.Sent[n/2], comesByHand(c, c.Sent[n/2]))
	}
	return got
}

// checkVerdict is for a cache of which the verdict is known without any model.
func checkVerdict(t *testing.T, c impl.Cache, want verdict) {
	t.Helper()
	if got := verdictOf(c); got != want || verdictByHand(c) != want {
		t.Fatalf("%s is judged %+v, not %+v (by hand %+v)", inShort(c), got, want, verdictByHand(c))
	}
}

// fromHere is an answer from here as it has to be.
func fromHere(client int, q impl.Req, o impl.Obj, at, bans int) impl.Reply {
	return impl.Reply{Client: client, Q: q, Resp: answerByHand(q, o, at), Kind: impl.AnHere, T: at, Obj: o, Bans: bans}
}

// gives is what was seen when an object came.
func gives(q impl.Req, o impl.Obj) impl.Seen { return impl.Seen{Q: q, Resp: o.Resp, T: o.T} }

func judgedDeeds() []impl.Deed {
	return []impl.Deed{
		tickDeed(10), askDeed(1, asksIn("/a", "de")), replyDeed(0, speaks("/a", "de", 10).Resp),
		tickDeed(1), askDeed(2, asksIn("/a", "de")),
		askDeed(3, asksIn("/b", "de")), replyDeed(0, speaks("/b", "de", 11).Resp),
		askDeed(4, purges("/c")), askDeed(5, asksIn("/b", "de")),
		tickDeed(5), askDeed(6, asksIn("/a", "de")), replyDeed(0, same304()),
		askDeed(7, asks("lang", "de", "if-none-match", "v10")),
		askDeed(8, posts("/a")), failDeed(0), banDeed(banBelow("/none", 0)),
		askDeed(9, asksIn("/d", "de")), replyDeed(0, speaks("/d", "de", 16).Resp), askDeed(10, asksIn("/d", "de")),
		askDeed(11, asksIn("/e", "de")), askDeed(12, asksIn("/e", "de")), askDeed(13, posts("/a")),
	}
}

// judged is a cache of which all is well. Answers from here are the first one,
// two in the middle (of which one is short, of an object that was renewed) and
// the last one; of what is known one lies on the disk unflushed, and so does
// one that is known no more; there are two bans and two flights.
func judged() impl.Cache {
	c, _ := impl.CacheRun(impl.CacheNew(), judgedDeeds())
	c.Sent = c.Sent[1:]
	return c
}

func placesFromHere() []int { return []int{0, 3, 5, 8} }

// A turn makes one thing of a cache other than it was.
type turn struct {
	name string
	make func(c *impl.Cache)
}

func TestJudgedIsWell(t *testing.T) {
	c := judged()
	checkVerdict(t, c, lacks())
	checkKnown(t, c.Shelf, 9, 7, 11, 16, 16)
	for i, a := range c.Sent {
		if (a.Kind == impl.AnHere) != slices.Contains(placesFromHere(), i) {
			t.Fatalf("the answer %d is of kind %d", i, a.Kind)
		}
	}
	if len(c.Sent) != 9 || len(c.Seen) != 4 || len(c.Flights) != 2 || len(c.Shelf.Bans) != 2 || len(c.Shelf.Disk.Pending) != 1 {
		t.Fatalf("there is %s", inShort(c))
	}
	for i, want := range []int{0, 1, 0, 3} {
		checkComes(t, c, c.Sent[placesFromHere()[i]], want)
	}
	checkVerdict(t, impl.CacheNew(), lacks())
}

func TestComesOfNoneSeen(t *testing.T) {
	for _, o := range decidedObjs() {
		checkComes(t, impl.CacheNew(), impl.Reply{Obj: o}, -1)
	}
	checkComes(t, impl.CacheNew(), impl.Reply{}, -1)
	c := judged()
	c.Seen = nil
	for _, a := range c.Sent {
		checkComes(t, c, a, -1)
	}
	checkVerdict(t, c, lacks("here"))
}

// whoGave are all such that speaks("/a", "de", 10) comes from them: what is not
// asked for is otherwise.
func whoGave() []impl.Seen {
	var all []impl.Seen
	turn := func(how func(one *impl.Seen)) {
		one := gives(asksIn("/a", "de"), speaks("/a", "de", 10))
		how(&one)
		all = append(all, one)
	}
	turn(func(one *impl.Seen) {})
	for _, came := range []int{9, 1, 0, -1, math.MinInt} {
		turn(func(one *impl.Seen) { one.T = came })
	}
	for _, list := range [][]impl.Field{nil, fieldsOf("vary", "*"), fieldsOf("cache-control", "no-store"), fieldsOf("etag", "other"), fieldsOf("a", "1", "a", "1"), fieldsOf("A", "")} {
		turn(func(one *impl.Seen) { one.Resp.Fields = list })
	}
	for _, list := range [][]impl.Field{fieldsOf("lang", "de", "x", "1"), fieldsOf("x", "", "lang", "de"), fieldsOf("lang", "de", "lang", "en"), fieldsOf("cache-control", "no-store, no-cache", "lang", "de"), append(manyFields(8), fieldsOf("lang", "de")...)} {
		turn(func(one *impl.Seen) { one.Q.Fields = list })
	}
	for _, body := range []string{"x", "b", strings.Repeat("x", 121)} {
		turn(func(one *impl.Seen) { one.Q.Body = body })
	}
	return all
}

// whoDidNot are all such that it does not come from them, in one way each.
func whoDidNot() []impl.Seen {
	var all []impl.Seen
	turn := func(how func(one *impl.Seen)) {
		one := gives(asksIn("/a", "de"), speaks("/a", "de", 10))
		how(&one)
		all = append(all, one)
	}
	for _, status := range []int{math.MinInt, -200, 0, 100, 199, 201, 203, 206, 304, 404, 599, math.MaxInt} {
		turn(func(one *impl.Seen) { one.Resp.Status = status })
	}
	for _, came := range []int{11, 12, 1000000, math.MaxInt} {
		turn(func(one *impl.Seen) { one.T = came })
	}
	for _, method := range []int{math.MinInt, -1, 0, impl.MtHead, impl.MtPost, impl.MtPurge, 5, math.MaxInt} {
		turn(func(one *impl.Seen) { one.Q.Method = method })
	}
	for _, path := range []string{"", "/", "/b", "/A", "a", "/a/", "/aa", " /a", "/a "} {
		turn(func(one *impl.Seen) { one.Q.Path = path })
	}
	for _, body := range []string{"", "B", "bb", "b ", "c", strings.Repeat("b", 121)} {
		turn(func(one *impl.Seen) { one.Resp.Body = body })
	}
	for _, list := range [][]impl.Field{nil, fieldsOf("lang", "en"), fieldsOf("lang", "De"), fieldsOf("lang", "-"), fieldsOf("lang", ""), fieldsOf("Lang", "de"), fieldsOf("x", "de"), fieldsOf("lang", "en", "lang", "de")} {
		turn(func(one *impl.Seen) { one.Q.Fields = list })
	}
	return all
}

func TestComesOfOne(t *testing.T) {
	a := fromHere(2, asksIn("/a", "de"), speaks("/a", "de", 10), 11, 0)
	for _, one := range whoGave() {
		c := judged()
		c.Seen = []impl.Seen{one}
		checkComes(t, c, a, 0)
	}
	for _, one := range whoDidNot() {
		c := judged()
		c.Seen = []impl.Seen{one}
		checkComes(t, c, a, -1)
	}
}

func TestComesOfTheLastThatFits(t *testing.T) {
	a := fromHere(2, asksIn("/a", "de"), speaks("/a", "de", 10), 11, 0)
	c := judged()
	for i, right := range whoGave() {
		for j, wrong := range whoDidNot() {
			other := whoGave()[(i+j)%len(whoGave())]
			for _, row := range []struct {
				list []impl.Seen
				want int
			}{
				{[]impl.Seen{wrong, right}, 1}, {[]impl.Seen{right, wrong}, 0},
				{[]impl.Seen{right, wrong, other}, 2}, {[]impl.Seen{wrong, right, other, wrong}, 2},
				{[]impl.Seen{right, other, right}, 2}, {[]impl.Seen{wrong, wrong, right, wrong, wrong}, 2},
				{[]impl.Seen{wrong, whoDidNot()[(i+j)%len(whoDidNot())], wrong}, -1},
			} {
				c.Seen = row.list
				checkComes(t, c, a, row.want)
			}
		}
	}
}

// A later one counts even where an earlier one came nearer to it.
func TestComesByPlaceAlone(t *testing.T) {
	a := fromHere(2, asksIn("/a", "de"), speaks("/a", "de", 10), 11, 0)
	c := judged()
	c.Seen = nil
	for _, came := range []int{3, 10, 9, 11, 0, 12} {
		one := gives(asksIn("/a", "de"), speaks("/a", "de", 10))
		one.T = came
		c.Seen = append(c.Seen, one)
	}
	checkComes(t, c, a, 4)
	for came, want := range map[int]int{-1: -1, 0: 4, 2: 4, 3: 4, 11: 4, 12: 5, 13: 5} {
		a.Obj.T = came
		checkComes(t, c, a, want)
	}
}

// What it comes from hangs on the object alone, not on the answer.
func TestComesOfTheObjectAlone(t *testing.T) {
	c := judged()
	for _, kind := range []int{-1, 0, 1, 2, 3, 4, 5} {
		a := impl.Reply{Client: -3, Q: posts("/x"), Resp: impl.Resp{Status: 404, Body: "other"}, Kind: kind, T: -5, Obj: speaks("/b", "de", 11), Bans: 9}
		checkComes(t, c, a, 1)
		a.Obj.T = 10
		checkComes(t, c, a, -1)
	}
	checkComes(t, c, impl.Reply{Q: asksIn("/b", "de"), Kind: impl.AnHere}, -1)
}

func TestComesOfOddObjects(t *testing.T) {
	c := judged()
	q := asks("lang", "de", "kind", "k", "*", "s")
	c.Seen = []impl.Seen{{Q: q, Resp: tells(), T: 5}, {Q: q, Resp: tells("vary", "lang"), T: 6}}
	for _, row := range []struct {
		names, values []string
		want          int
	}{
		{nil, nil, 1}, {[]string{"lang"}, []string{"de"}, 1}, {[]string{"lang", "kind"}, []string{"de", "k"}, 1},
		{[]string{"kind", "lang"}, []string{"de", "k"}, -1}, {[]string{"lang", "lang"}, []string{"de", "de"}, 1},
		{[]string{"none"}, []string{"-"}, 1}, {[]string{"none"}, []string{""}, -1}, {[]string{"none"}, nil, -1},
		{nil, []string{"de"}, -1}, {[]string{"lang"}, []string{"de", "de"}, -1}, {[]string{"lang"}, nil, -1},
		{[]string{"*"}, []string{"s"}, -1}, {[]string{"lang", "*"}, []string{"de", "s"}, -1}, {[]string{"*"}, nil, -1},
		{make([]string, 30), slices.Repeat([]string{"-"}, 30), 1},
	} {
		for came, want := range map[int]int{4: -1, 5: min(row.want, 0), 6: row.want, math.MaxInt: row.want, math.MinInt: -1} {
			checkComes(t, c, impl.Reply{Obj: impl.Obj{Path: "/a", Names: row.names, Values: row.values, Resp: tells("vary", "other"), T: came}}, want)
		}
	}
}

func TestComesOfMany(t *testing.T) {
	a := fromHere(2, asksIn("/a", "de"), speaks("/a", "de", 10), 11, 0)
	right, wrongs := whoGave()[0], whoDidNot()
	c := judged()
	c.Seen = nil
	for i := range 1496 {
		c.Seen = append(c.Seen, wrongs[i%len(wrongs)])
	}
	for _, at := range []int{0, 1, 2, 500, 749, 1494, 1495} {
		c.Seen[at] = right
		checkComes(t, c, a, at)
	}
	c.Seen = append(c.Seen, right, wrongs[0], wrongs[1], right)
	checkComes(t, c, a, 1499)
	c.Seen = append(c.Seen, right)
	checkComes(t, c, a, -1)
}

// wrongsOf are such that nothing is amiss, but that it is no cache.
func wrongsOf() []turn {
	return []turn{
		{"now below", func(c *impl.Cache) { c.Now = -1 }},
		{"now above", func(c *impl.Cache) { c.Now = 1000001 }},
		{"next", func(c *impl.Cache) { c.Shelf.Next = 4 }},
		{"next above", func(c *impl.Cache) { c.Shelf.Next = 20 }},
		{"seq", func(c *impl.Cache) { c.Shelf.Seq = 6 }},
		{"seq above", func(c *impl.Cache) { c.Shelf.Seq = 100001 }},
		{"cells", func(c *impl.Cache) { c.Shelf.Disk.Cells = append(c.Shelf.Disk.Cells, "") }},
		{"pending", func(c *impl.Cache) { c.Shelf.Disk.Pending = append(c.Shelf.Disk.Pending, impl.Write{At: 20}) }},
		{"no disk", func(c *impl.Cache) { c.Shelf = impl.Shelf{Next: 5, Seq: 1} }},
		{"nobody", func(c *impl.Cache) { c.Flights[1].Who = nil }},
		{"too many wait", func(c *impl.Cache) { c.Flights[0].Who = manyClients(6) }},
		{"old", func(c *impl.Cache) { c.Flights[0].HasOld = true }},
		{"asked", func(c *impl.Cache) { c.Flights[1].Q.Path = "x" }},
		{"alike", func(c *impl.Cache) { c.Flights[1].Q = c.Flights[0].Q }},
		{"flights", func(c *impl.Cache) {
			for i := range 4 {
				c.Flights = append(c.Flights, flies(posts("/a"), 200+i))
			}
		}},
		{"seen", func(c *impl.Cache) { c.Seen = append(make([]impl.Seen, 1497), c.Seen...) }},
		{"sent", func(c *impl.Cache) {
			for i := range 1492 {
				c.Sent = append(c.Sent, impl.Reply{Client: 1000 + i, Kind: impl.AnNot})
			}
		}},
	}
}

func TestJudgesOfNoCache(t *testing.T) {
	for _, one := range wrongsOf() {
		c := judged()
		one.make(&c)
		checkCacheOk(t, c, false)
		checkVerdict(t, c, verdict{})
		for _, a := range c.Sent[:9] {
			checkComes(t, c, a, -1)
		}
	}
	for _, c := range wrongCaches() {
		checkVerdict(t, c, verdict{})
		checkComes(t, c, busy().Sent[1], -1)
	}
	checkVerdict(t, impl.Cache{}, verdict{})
}

// As many of each as may be are still judged.
func TestJudgesOfFullCaches(t *testing.T) {
	c := judged()
	for i := len(c.Seen); i < impl.MaxList; i++ {
		c.Seen = append(c.Seen, impl.Seen{Q: posts("/a"), T: 3})
	}
	for i := len(c.Sent); i < impl.MaxList; i++ {
		c.Sent = append(c.Sent, impl.Reply{Client: 1000 + i, Kind: impl.AnNot})
	}
	for i := len(c.Flights); i < impl.MaxFlights; i++ {
		c.Flights = append(c.Flights, flies(posts("/a"), 200+10*i, 201+10*i, 202+10*i, 203+10*i, 204+10*i))
	}
	c.Now = 1000000
	checkVerdict(t, c, lacks())
	c.Sent[1499] = fromHere(14, asksIn("/a", "de"), speaks("/a", "de", 10), 11, 0)
	checkVerdict(t, c, lacks())
	c.Sent[1499].Resp.Body = "x"
	checkVerdict(t, c, lacks("here"))
	c.Sent[1499].Client, c.Sent[1499].Resp.Body = 10, "b"
	checkVerdict(t, c, lacks("once"))
}

// wrongFromHere are such that something is amiss with an answer from here, and,
// but for the last two, one thing alone.
func wrongFromHere() map[string]func(a *impl.Reply) {
	again := func(a *impl.Reply) { a.Resp = answerByHand(a.Q, a.Obj, a.T) }
	all := map[string]func(a *impl.Reply){
		"not fresh":      func(a *impl.Reply) { a.T = a.Obj.T + 5; again(a) },
		"long not fresh": func(a *impl.Reply) { a.T = math.MaxInt; again(a) },
		"came long ago": func(a *impl.Reply) {
			a.Obj.Resp.Fields = putByHand(a.Obj.Resp.Fields, "age", "5")
			again(a)
		},
		"no life": func(a *impl.Reply) {
			a.Obj.Resp.Fields = putByHand(a.Obj.Resp.Fields, "cache-control", "private")
			again(a)
		},
		"not to be told": func(a *impl.Reply) {
			a.Obj.Resp.Fields = putByHand(a.Obj.Resp.Fields, "cache-control", "max-age=5, no-cache")
			again(a)
		},
		"other path":     func(a *impl.Reply) { a.Q.Path = "/x" },
		"longer path":    func(a *impl.Reply) { a.Q.Path += "/" },
		"other lang":     func(a *impl.Reply) { a.Q.Fields = putByHand(a.Q.Fields, "lang", "en") },
		"no lang":        func(a *impl.Reply) { a.Q.Fields = dropByHand(a.Q.Fields, "lang") },
		"not to be kept": func(a *impl.Reply) { a.Q.Fields = putByHand(a.Q.Fields, "cache-control", "no-store") },
		"to be asked":    func(a *impl.Reply) { a.Q.Fields = putByHand(a.Q.Fields, "cache-control", "max-age=9, No-Cache") },
		"other status":   func(a *impl.Reply) { a.Resp.Status++ },
		"short or not":   func(a *impl.Reply) { a.Resp.Status = 504 - a.Resp.Status },
		"other body":     func(a *impl.Reply) { a.Resp.Body += "x" },
		"upper body":     func(a *impl.Reply) { a.Resp.Body = "B" },
		"no fields":      func(a *impl.Reply) { a.Resp.Fields = nil },
		"no age":         func(a *impl.Reply) { a.Resp.Fields = dropByHand(a.Resp.Fields, "age") },
		"later age":      func(a *impl.Reply) { a.Resp.Fields = putByHand(a.Resp.Fields, "age", "9") },
		"one field more": func(a *impl.Reply) { a.Resp.Fields = putByHand(a.Resp.Fields, "x", "1") },
		"one twice": func(a *impl.Reply) {
			a.Resp.Fields = slices.Concat(a.Resp.Fields, a.Resp.Fields[:1])
		},
		"other order": func(a *impl.Reply) {
			a.Resp.Fields = slices.Concat(a.Resp.Fields[1:], a.Resp.Fields[:1])
		},
		"of another time":  func(a *impl.Reply) { a.T++ },
		"of nobody's body": func(a *impl.Reply) { a.Obj.Resp.Body = "x"; again(a) },
		"of no path":       func(a *impl.Reply) { a.Obj.Path, a.Q.Path = "/x", "/x" },
		"of no lang": func(a *impl.Reply) {
			a.Obj.Values = []string{"en"}
			a.Q.Fields = putByHand(a.Q.Fields, "lang", "en")
		},
		"ahead of all":   func(a *impl.Reply) { a.Obj.T = 9; a.T = 10; again(a) },
		"of any":         func(a *impl.Reply) { a.Obj.Names, a.Obj.Values = []string{"*"}, []string{"-"} },
		"of nothing":     func(a *impl.Reply) { a.Obj = impl.Obj{} },
		"of all nothing": func(a *impl.Reply) { *a = impl.Reply{Client: a.Client, Kind: impl.AnHere} },
	}
	for _, method := range []int{math.MinInt, 0, impl.MtHead, impl.MtPost, impl.MtPurge, 5} {
		all[fmt.Sprint("method ", method)] = func(a *impl.Reply) { a.Q.Method = method }
	}
	return all
}

func TestJudgeHereOfEachPart(t *testing.T) {
	for _, at := range placesFromHere() {
		for name, wrong := range wrongFromHere() {
			c := judged()
			wrong(&c.Sent[at])
			if impl.JudgeHere(c) {
				t.Fatalf("%s: the answer %d is right: %s", name, at, inShort(c.Sent[at]))
			}
			checkVerdict(t, c, lacks("here"))
			// It is told where there is no other answer, too.
			c.Sent = c.Sent[at : at+1]
			checkVerdict(t, c, lacks("here"))
		}
	}
}

func TestJudgeHereOfOtherKinds(t *testing.T) {
	for _, kind := range []int{math.MinInt, -1, 0, impl.AnThere, impl.AnSame, impl.AnNot, 5, math.MaxInt} {
		for _, at := range placesFromHere() {
			for _, wrong := range wrongFromHere() {
				c := judged()
				wrong(&c.Sent[at])
				c.Sent[at].Kind = kind
				checkVerdict(t, c, lacks())
			}
		}
		c := judged()
		for i := range c.Sent {
			c.Sent[i].Kind = kind
		}
		c.Seen = nil
		checkVerdict(t, c, lacks())
	}
	for i, a := range judged().Sent {
		if a.Kind != impl.AnHere {
			c := judged()
			c.Sent[i].Kind = impl.AnHere
			checkVerdict(t, c, lacks("here"))
		}
	}
}

func TestJudgeHereOfNoAnswer(t *testing.T) {
	c := judged()
	c.Sent = nil
	checkVerdict(t, c, lacks())
	c.Seen = nil
	checkVerdict(t, c, lacks())
	c.Sent = []impl.Reply{{Client: 4, Kind: impl.AnNot}}
	checkVerdict(t, c, lacks())
}

// It is right as long as it lives, and not at the time when it is over.
func TestJudgeHereAtEachTime(t *testing.T) {
	for _, life := range []int{0, 1, 5, 999999, 1000000} {
		o := cameAs("/a", "de", 10, life)
		for _, now := range append(anyTimes(), math.MinInt, -1, 0, 9, 10, 11, 13, 14, 15, 16, 999998, 999999, 1000000, 1000001, 1000008, 1000009, 1000010, math.MaxInt) {
			c := judged()
			c.Seen = []impl.Seen{gives(asksIn("/a", "de"), o)}
			c.Sent = []impl.Reply{fromHere(2, asksIn("/a", "de"), o, now, 0)}
			want := lacks("here")
			if life > 0 && (now < 10+life || life == 1000000 && now < 1000000) {
				want = lacks()
			}
			checkVerdict(t, c, want)
		}
	}
}

// Whether the object is one, or the request is one, is not asked for.
func TestJudgeHereOfWhatIsNotAskedFor(t *testing.T) {
	c := judged()
	o := impl.Obj{Path: "no path", Names: []string{"A b"}, Values: []string{""}, Resp: tells("cache-control", "max-age=5", "cache-control", "no-cache", "Vary", ""), T: -4}
	q := impl.Req{Method: impl.MtGet, Path: "no path", Fields: fieldsOf("A b", "", "x", ""), Body: strings.Repeat("x", 500)}
	c.Seen, c.Sent = []impl.Seen{gives(q, o)}, []impl.Reply{fromHere(-1, q, o, -1, 0)}
	checkVerdict(t, c, lacks())
	c.Sent[0].Client, c.Sent[0].Bans = math.MinInt, -9
	checkVerdict(t, c, lacks())
	c.Seen[0].T = -3
	checkVerdict(t, c, lacks("here"))
}

func TestJudgeHereOfRequestsAndObjects(t *testing.T) {
	for i, q := range append(decidedReqs(), tagReqs()...) {
		for j, o := range decidedObjs() {
			c := judged()
			seen := gives(q, o)
			if (i+j)%3 == 0 {
				seen.Q = asksIn(o.Path, "de")
			}
			c.Seen = append(c.Seen, seen)
			c.Sent = append(c.Sent, fromHere(20, q, o, 10+(i+j)%7, 0))
			checkJudges(t, c)
		}
	}
}

// The last ban there is hits the object of one answer alone: it came from here
// ahead of that ban.
func bannedSince() impl.Cache {
	c, _ := impl.CacheDo(judged(), banDeed(banField("etag", "v11", 0)))
	return c
}

func TestJudgeBansByHowManyThereWere(t *testing.T) {
	checkVerdict(t, bannedSince(), lacks())
	for bans := -3; bans < 9; bans++ {
		for i := range bannedSince().Sent {
			c := bannedSince()
			c.Sent[i].Bans = bans
			want := lacks()
			if i == 3 && bans > 2 {
				want = lacks("bans")
			}
			checkVerdict(t, c, want)
		}
	}
	for bans, want := range map[int]verdict{math.MinInt: lacks(), math.MaxInt: lacks("bans")} {
		c := bannedSince()
		c.Sent[3].Bans = bans
		checkVerdict(t, c, want)
		for _, kind := range []int{-1, 0, impl.AnThere, impl.AnSame, impl.AnNot, 5} {
			c.Sent[3].Kind = kind
			checkVerdict(t, c, lacks())
		}
	}
}

// The object of one answer is hit by one of five bans, in each place.
func TestJudgeBansOfEachBan(t *testing.T) {
	o := speaks("/x/y", "de", 10)
	for _, hit := range []impl.Ban{banPath("/x/y", 10), banBelow("/x", 10), banBelow("/x/y", 999), banField("etag", "v10", 11), banField("vary", "lang", 10)} {
		for at := range 5 {
			for _, place := range placesFromHere() {
				for bans := -1; bans < 8; bans++ {
					c := judged()
					c.Shelf, c.Shelf.Bans = impl.ShelfNew(), manyBans(5)
					c.Shelf.Bans[at] = hit
					c.Sent = slices.Clone(c.Sent)
					for i := range c.Sent {
						c.Sent[i].Obj, c.Sent[i].Bans, c.Sent[i].Kind = speaks("/z", "de", 1000), 5, impl.AnHere
					}
					c.Sent[place].Obj, c.Sent[place].Bans = o, bans
					want := lacks("here", "disk")
					if bans > at {
						want = lacks("here", "disk", "bans")
					}
					checkVerdict(t, c, want)
					c.Sent[place].Obj.T = 1000
					checkVerdict(t, c, lacks("here", "disk"))
				}
			}
		}
	}
}

func TestJudgeBansOfWhatIsKnown(t *testing.T) {
	hits := [][]impl.Ban{
		{banPath("/b", 11), banPath("/a", 16), banPath("/d", 16)},
		{banBelow("/b", 16), banBelow("/a", 16), banBelow("/d", 1000000)},
		{banField("etag", "v11", 15), banField("etag", "v10", 16), banField("etag", "v16", 17)},
		{banBelow("/", 11), banBelow("/", 16), banField("vary", "lang", 16)},
	}
	for known := range 3 {
		for _, list := range hits {
			for at := range 3 {
				c := judged()
				for i := range c.Sent {
					c.Sent[i].Bans = 0
				}
				hit := list[known]
				c.Shelf.Bans = slices.Insert(c.Shelf.Bans, at, hit)
				checkVerdict(t, c, lacks("bans", "disk"))
				c.Sent, c.Seen = nil, nil
				checkVerdict(t, c, lacks("bans", "disk"))
				c.Shelf.Bans[at].T = 10
				checkVerdict(t, c, lacks("disk"))
			}
		}
	}
	c := judged()
	c.Shelf.Objs = nil
	c.Shelf.Bans = append(c.Shelf.Bans, banBelow("/", 1000))
	checkVerdict(t, c, lacks("disk"))
}

func TestJudgeOnce(t *testing.T) {
	for _, one := range []turn{
		{"two answers", func(c *impl.Cache) { c.Sent[0].Client = 7 }},
		{"two answers behind each other", func(c *impl.Cache) { c.Sent[8].Client = c.Sent[7].Client }},
		{"first and last", func(c *impl.Cache) { c.Sent[8].Client = c.Sent[0].Client }},
		{"all of one", func(c *impl.Cache) {
			for i := range c.Sent {
				c.Sent[i].Client = 5
			}
		}},
		{"not and not", func(c *impl.Cache) { c.Sent[2].Client = c.Sent[6].Client }},
		{"of no kind", func(c *impl.Cache) { c.Sent[1].Kind, c.Sent[1].Client = 0, c.Sent[2].Client }},
		{"one of an answer more", func(c *impl.Cache) { c.Sent = append(c.Sent, impl.Reply{Client: 6, Kind: 9}) }},
		{"first of the first flight", func(c *impl.Cache) { c.Sent[0].Client = 11 }},
		{"last of the first flight", func(c *impl.Cache) { c.Sent[8].Client = 12 }},
		{"last flight", func(c *impl.Cache) { c.Sent[4].Client = 13 }},
		{"two places in one flight", func(c *impl.Cache) { c.Flights[0].Who[1] = 11 }},
		{"first and last place", func(c *impl.Cache) { c.Flights[1].Who = []int{13, 14, 15, 16, 13} }},
		{"two flights", func(c *impl.Cache) { c.Flights[1].Who[0] = 12 }},
		{"two flights, of others too", func(c *impl.Cache) { c.Flights[1].Who = []int{20, 21, 11} }},
		{"no answer", func(c *impl.Cache) { c.Sent, c.Flights[1].Who = nil, []int{12} }},
	} {
		c := judged()
		one.make(&c)
		if impl.JudgeOnce(c) {
			t.Fatalf("%s: all is well", one.name)
		}
		checkVerdict(t, c, lacks("once"))
	}
}

func TestJudgeOnceOfOneEach(t *testing.T) {
	clients := []int{math.MinInt, math.MaxInt, 0, -1, 1, 2, -2, 1 << 32, 1<<32 + 1, -1 << 32, 300, 44}
	for shift := range clients {
		c := judged()
		next := func() int {
			shift++
			return clients[shift%len(clients)]
		}
		for i := range c.Sent {
			c.Sent[i].Client = next()
		}
		c.Flights[0].Who, c.Flights[1].Who = []int{next(), next()}, []int{next()}
		checkVerdict(t, c, lacks())
		for _, who := range []*int{&c.Sent[0].Client, &c.Sent[4].Client, &c.Flights[0].Who[0], &c.Flights[0].Who[1]} {
			was := *who
			*who = c.Flights[1].Who[0]
			checkVerdict(t, c, lacks("once"))
			*who = was
		}
		checkVerdict(t, c, lacks())
	}
	c := judged()
	c.Sent = nil
	checkVerdict(t, c, lacks())
	c.Flights = nil
	checkVerdict(t, c, lacks())
}

// Where each of a row may be of any of three clients, the model tells.
func TestJudgeOnceOfFewClients(t *testing.T) {
	for _, row := range sizeLists([]int{0, 1, -1, 2}, 4) {
		for cut := range len(row) + 1 {
			for second := cut; second <= len(row); second++ {
				c := impl.CacheNew()
				for _, client := range row[:cut] {
					c.Sent = append(c.Sent, impl.Reply{Client: client, Kind: impl.AnNot})
				}
				for _, who := range [][]int{row[cut:second], row[second:]} {
					if len(who) > 0 {
						c.Flights = append(c.Flights, flies(posts("/a"), who...))
					}
				}
				checkJudges(t, c)
			}
		}
	}
}

// diskTurns are such that the disk alone is amiss.
func diskTurns() []turn {
	put := func(at int, text string) func(c *impl.Cache) {
		return func(c *impl.Cache) {
			c.Shelf.Disk.Pending = append(c.Shelf.Disk.Pending, impl.Write{At: at, Text: text})
		}
	}
	lay := func(at int, text string) func(c *impl.Cache) {
		return func(c *impl.Cache) { c.Shelf.Disk.Cells[at] = text }
	}
	all := []turn{
		{"a new disk", func(c *impl.Cache) { c.Shelf.Disk = impl.DiskNew() }},
		{"nothing of b", lay(6, "")}, {"nothing of a", lay(7, "")}, {"another b", lay(6, recOf(2, speaks("/b", "en", 11)))},
		{"a text in place of b", lay(6, "text")}, {"b is put no more", put(6, "")}, {"a text is put to a", put(7, "text")},
		{"d was not put", func(c *impl.Cache) { c.Shelf.Disk.Pending = nil }},
		{"d was put elsewhere", func(c *impl.Cache) { c.Shelf.Disk.Pending[0].At = 9 }},
		{"d was put otherwise", func(c *impl.Cache) { c.Shelf.Disk.Pending[0].Text += "!" }},
		{"d was put under a number", func(c *impl.Cache) { c.Shelf.Disk.Pending[0].Text = recOf(9, speaks("/d", "de", 16)) }},
		{"d is put and lost", put(8, "lost")},
		{"a later b", put(9, recOf(7, speaks("/b", "de", 12)))}, {"a later a", lay(19, recOf(5, speaks("/a", "de", 12)))},
		{"another of one number", put(9, recOf(6, speaks("/z", "de", 12)))}, {"b itself once more", lay(10, recOf(3, speaks("/b", "de", 11)))},
		{"one ban more", put(2, recOfBan(7, banPath("/z", 16)))}, {"one ban more lies there", lay(2, recOfBan(7, banPath("/z", 16)))},
		{"no first ban", lay(0, "")}, {"no second ban", lay(1, "")}, {"the first ban is put no more", put(0, "")},
		{"another ban", lay(1, recOfBan(5, banBelow("/none", 17)))}, {"another ban is put", put(1, recOfBan(5, banBelow("/nonf", 16)))},
		{"the same ban twice", lay(0, recOfBan(5, banBelow("/none", 16)))},
		{"a ban hits b on the disk", func(c *impl.Cache) { lay(2, recOfBan(7, banPath("/b", 16)))(c) }},
		{"a ban that is not flushed", func(c *impl.Cache) {
			c.Shelf.Disk.Pending = append(c.Shelf.Disk.Pending, impl.Write{At: 1, Text: c.Shelf.Disk.Cells[1]})
			c.Shelf.Disk.Cells[1] = ""
		}},
		{"a ban more that is not flushed", func(c *impl.Cache) {
			c.Shelf.Bans = append(c.Shelf.Bans, banPath("/z", 16))
			put(2, recOfBan(7, banPath("/z", 16)))(c)
		}},
		{"a ban less that is not flushed", func(c *impl.Cache) {
			c.Shelf.Bans = c.Shelf.Bans[:1]
			put(1, "")(c)
		}},
		{"no ban at all", func(c *impl.Cache) { c.Shelf.Bans = nil }}, {"one ban", func(c *impl.Cache) { c.Shelf.Bans = c.Shelf.Bans[:1] }},
		{"the second ban alone", func(c *impl.Cache) { c.Shelf.Bans = c.Shelf.Bans[1:] }},
		{"bans in turn", func(c *impl.Cache) { slices.Reverse(c.Shelf.Bans) }},
		{"bans twice", func(c *impl.Cache) { c.Shelf.Bans = slices.Repeat(c.Shelf.Bans, 2) }},
		{"a ban that nobody wrote", func(c *impl.Cache) { c.Shelf.Bans = append(c.Shelf.Bans, banPath("/z", 16)) }},
		{"a ban of another time", func(c *impl.Cache) { c.Shelf.Bans[0].T++ }}, {"a ban of another path", func(c *impl.Cache) { c.Shelf.Bans[1].A = "/nonf" }},
		{"a ban of another kind", func(c *impl.Cache) { c.Shelf.Bans[0].Kind = impl.BnBelow }},
	}
	for known := range 3 {
		turnKnown := func(name string, how func(one *impl.Kept)) {
			all = append(all, turn{fmt.Sprint(name, known), func(c *impl.Cache) { how(&c.Shelf.Objs[known]) }})
		}
		turnKnown("path", func(one *impl.Kept) { one.Obj.Path += "x" })
		turnKnown("values", func(one *impl.Kept) { one.Obj.Values[0] = "en" })
		turnKnown("time", func(one *impl.Kept) { one.Obj.T++ })
		turnKnown("body", func(one *impl.Kept) { one.Obj.Resp.Body += "x" })
		turnKnown("status", func(one *impl.Kept) { one.Obj.Resp.Status++ })
		turnKnown("field", func(one *impl.Kept) { one.Obj.Resp.Fields[2].Value += "x" })
		turnKnown("one field more", func(one *impl.Kept) { one.Obj.Resp.Fields = append(one.Obj.Resp.Fields, fieldsOf("x", "1")...) })
		turnKnown("cell", func(one *impl.Kept) { one.At += 10 })
		turnKnown("names", func(one *impl.Kept) {
			one.Obj.Names, one.Obj.Values = nil, nil
			one.Obj.Resp.Fields = dropByHand(one.Obj.Resp.Fields, "vary")
		})
	}
	return append(all,
		turn{"number 0", func(c *impl.Cache) { c.Shelf.Objs[0].Seq = 1 }}, turn{"number 1", func(c *impl.Cache) { c.Shelf.Objs[1].Seq = 3 }}, turn{"number 2", func(c *impl.Cache) { c.Shelf.Objs[2].Seq = 5 }},
		turn{"one known more", func(c *impl.Cache) {
			c.Shelf.Objs, c.Shelf.Seq = append(c.Shelf.Objs, knows(speaks("/z", "de", 16), 9, 7)), 8
		}},
		turn{"what was replaced is known", func(c *impl.Cache) {
			c.Shelf.Objs = slices.Insert(c.Shelf.Objs, 0, knows(speaks("/a", "de", 10), 5, 1))
		}})
}

func TestJudgeDiskOfEachPart(t *testing.T) {
	for _, one := range diskTurns() {
		c := judged()
		one.make(&c)
		if impl.JudgeDisk(c) {
			t.Fatalf("%s: all is well with %s", one.name, inShort(c.Shelf))
		}
		checkVerdict(t, c, lacks("disk"))
	}
}

func TestJudgeDiskOfWhatIsNotAskedFor(t *testing.T) {
	for _, one := range []turn{
		{"all flushed", func(c *impl.Cache) { c.Shelf.Disk = impl.Flush(c.Shelf.Disk) }},
		{"mounted", func(c *impl.Cache) { c.Shelf = impl.Mount(c.Shelf.Disk) }},
		{"mounted behind a crash", func(c *impl.Cache) { c.Shelf = impl.Mount(impl.Crash(c.Shelf.Disk, nil)) }},
		{"less is known", func(c *impl.Cache) { c.Shelf.Objs = c.Shelf.Objs[1:] }},
		{"the last one is not known", func(c *impl.Cache) { c.Shelf.Objs = c.Shelf.Objs[:2] }},
		{"nothing is known", func(c *impl.Cache) { c.Shelf.Objs = nil }},
		{"next and number", func(c *impl.Cache) { c.Shelf.Next, c.Shelf.Seq = 5, 100000 }},
		{"more lies there", func(c *impl.Cache) { c.Shelf.Disk.Cells[12] = recOf(99, speaks("/z", "de", 12)) }},
		{"more was put", func(c *impl.Cache) {
			c.Shelf.Disk.Pending = append(c.Shelf.Disk.Pending, impl.Write{At: 13, Text: recOf(99, speaks("/z", "de", 12))})
		}},
		{"an earlier one of it", func(c *impl.Cache) { c.Shelf.Disk.Cells[12] = recOf(1, speaks("/b", "de", 20)) }},
		{"a text lies there", func(c *impl.Cache) { c.Shelf.Disk.Cells[19] = "text" }},
		{"a text behind the bans", func(c *impl.Cache) { c.Shelf.Disk.Cells[2] = "text" }},
		{"a ban behind an empty cell", func(c *impl.Cache) { c.Shelf.Disk.Cells[3] = recOfBan(7, banPath("/b", 16)) }},
		{"an object in a cell of bans", func(c *impl.Cache) { c.Shelf.Disk.Cells[2] = recOf(99, speaks("/b", "de", 16)) }},
		{"nothing of what was replaced", func(c *impl.Cache) { c.Shelf.Disk.Cells[5] = "" }},
		{"bans were put once more", func(c *impl.Cache) {
			c.Shelf.Disk.Pending = append(c.Shelf.Disk.Pending, impl.Write{At: 1, Text: c.Shelf.Disk.Cells[1]}, impl.Write{At: 0, Text: recOfBan(9, c.Shelf.Bans[0])})
		}},
		{"b is not flushed", func(c *impl.Cache) {
			c.Shelf.Disk.Pending = append(c.Shelf.Disk.Pending, impl.Write{At: 6, Text: c.Shelf.Disk.Cells[6]})
			c.Shelf.Disk.Cells[6] = "text"
		}},
		{"b is lost and put again", func(c *impl.Cache) {
			c.Shelf.Disk.Pending = append(c.Shelf.Disk.Pending, impl.Write{At: 6}, impl.Write{At: 6, Text: c.Shelf.Disk.Cells[6]})
		}},
		{"d was lost ahead of it", func(c *impl.Cache) {
			c.Shelf.Disk.Pending = slices.Insert(c.Shelf.Disk.Pending, 0, impl.Write{At: 8, Text: "lost"})
		}},
		{"a later time", func(c *impl.Cache) { c.Now = 1000000 }},
	} {
		c := judged()
		one.make(&c)
		if !impl.JudgeDisk(c) {
			t.Fatalf("%s: the disk is amiss with %s", one.name, inShort(c.Shelf))
		}
		checkVerdict(t, c, lacks())
	}
}

// Nothing of what was not flushed is kept: what is in place of the bans on the
// disk counts, whatever was put there since.
func TestJudgeDiskOfUnflushedBans(t *testing.T) {
	b := banPath("/z", 16)
	for _, lie := range []string{"", "text", recOfBan(7, b), recOfBan(8, b), recOfBan(7, banPath("/z", 17))} {
		for _, put := range []string{"", "text", recOfBan(7, b), recOfBan(9, b), recOfBan(7, banPath("/y", 16))} {
			for _, isBan := range []bool{false, true} {
				c := judged()
				c.Shelf.Disk.Cells[2] = lie
				c.Shelf.Disk.Pending = append(c.Shelf.Disk.Pending, impl.Write{At: 2, Text: put})
				if isBan {
					c.Shelf.Bans = append(c.Shelf.Bans, b)
				}
				_, lies, _ := recByHand(lie)
				_, puts, _ := recByHand(put)
				want := lacks("disk")
				if isBan && lies == banTextByHand(b) && puts == lies || !isBan && lies == "" && puts == "" {
					want = lacks()
				}
				checkVerdict(t, c, want)
			}
		}
	}
}

func TestJudgesOfShelves(t *testing.T) {
	for _, s := range slices.Concat(rightShelves(), wrongShelves(), writtenShelves(), decidedShelves()) {
		c := judged()
		c.Shelf = s
		checkJudges(t, c)
		c.Sent = nil
		checkJudges(t, c)
	}
	// What the store itself has written lies on the disk, flushed or not.
	for _, s := range writtenShelves() {
		c := impl.Cache{Shelf: s}
		checkVerdict(t, c, lacks())
		c.Shelf.Disk = impl.Flush(s.Disk)
		checkVerdict(t, c, lacks())
		c.Shelf = impl.Mount(impl.Crash(s.Disk, nil))
		checkVerdict(t, c, lacks())
	}
}

func TestJudgeAllOfItsParts(t *testing.T) {
	here := turn{"here", func(c *impl.Cache) { c.Sent[3].Resp.Body = "x" }}
	bans := turn{"bans", func(c *impl.Cache) { c.Sent[3].Bans = 3 }}
	once := turn{"once", func(c *impl.Cache) { c.Sent[3].Client = 11 }}
	disk := turn{"disk", func(c *impl.Cache) { c.Shelf.Disk.Pending = nil; c.Shelf.Disk.Cells[7] = "" }}
	for set := range 16 {
		c := bannedSince()
		var names []string
		for i, one := range []turn{here, bans, once, disk} {
			if set>>i&1 == 1 {
				one.make(&c)
				names = append(names, one.name)
			}
		}
		checkVerdict(t, c, lacks(names...))
	}
}

func TestJudgesOfManyCaches(t *testing.T) {
	for _, c := range slices.Concat(rightCaches(), wrongCaches(), movedCaches()) {
		checkJudges(t, c)
	}
}

func TestJudgesOfAnyBytes(t *testing.T) {
	was := judged()
	for _, text := range fewOdd() {
		for i, make := range []func(c *impl.Cache){
			func(c *impl.Cache) { c.Sent[3].Obj.Path = text },
			func(c *impl.Cache) { c.Sent[3].Obj.Path, c.Sent[3].Q.Path, c.Seen[1].Q.Path = text, text, text },
			func(c *impl.Cache) { c.Sent[3].Obj.Path, c.Sent[3].Q.Path, c.Seen[1].Q.Path = text, text, text+"x" },
			func(c *impl.Cache) { c.Sent[3].Obj.Names, c.Sent[3].Obj.Values = []string{text}, []string{"-"} },
			func(c *impl.Cache) {
				c.Sent[3].Obj.Values, c.Sent[3].Q.Fields, c.Seen[1].Q.Fields = []string{text}, fieldsOf("lang", text), fieldsOf("lang", text)
			},
			func(c *impl.Cache) {
				c.Sent[3].Obj.Resp.Body, c.Sent[3].Resp.Body, c.Seen[1].Resp.Body = text, text, text
			},
			func(c *impl.Cache) { c.Sent[3].Obj.Resp.Body, c.Sent[3].Resp.Body = text, text },
			func(c *impl.Cache) { c.Sent[3].Resp.Body = "b" + text },
			func(c *impl.Cache) { c.Sent[3].Q.Fields = fieldsOf("lang", "de", "cache-control", "no-cache"+text) },
			func(c *impl.Cache) { c.Sent[3].Q.Fields = fieldsOf("lang", "de", "cache-control", text+"no-store") },
			func(c *impl.Cache) { c.Sent[3].Resp.Fields[0].Value = text },
			func(c *impl.Cache) { c.Sent[3].Obj.Resp.Fields[0].Value = "max-age=9" + text },
			func(c *impl.Cache) { c.Shelf.Disk.Cells[6] += text },
			func(c *impl.Cache) { c.Shelf.Disk.Cells[1] += text },
			func(c *impl.Cache) { c.Shelf.Disk.Pending[0].Text = text },
			func(c *impl.Cache) { c.Shelf.Disk.Cells[2] = text },
			func(c *impl.Cache) { c.Shelf.Objs[1].Obj.Path = "/" + text },
			func(c *impl.Cache) { c.Shelf.Objs[1].Obj.Values[0] = text },
			func(c *impl.Cache) { c.Shelf.Objs[1].Obj.Resp.Body = text },
			func(c *impl.Cache) { c.Shelf.Bans[1].A = "/" + text },
			func(c *impl.Cache) { c.Flights[0].Q.Path = "/" + text },
			func(c *impl.Cache) {
				b := banField("etag", "v11"+text, 16)
				c.Shelf.Bans, c.Shelf.Disk.Cells[2], c.Sent[3].Bans = append(c.Shelf.Bans, b), recOfBan(7, b), 3
			},
		} {
			c := roomy(was)
			make(&c)
			got := checkJudges(t, c)
			if i == 1 && !got.all || i == 2 && got.here || i == 5 && !got.all || i == 6 && got.here != (text == "b") || i == 7 && got.here != (text == "") {
				t.Fatalf("%q: by %d %s is judged %+v", text, i, inShort(c), got)
			}
		}
	}
}

func TestJudgesWriteIntoNothing(t *testing.T) {
	caches := append(movedCaches(), judged(), bannedSince())
	for _, one := range append(diskTurns(), wrongsOf()...) {
		c := judged()
		one.make(&c)
		caches = append(caches, c)
	}
	for _, was := range caches {
		c := roomy(was)
		c.Sent = slices.Grow(append(c.Sent, roomy(fromHere(2, asksIn("/a", "de"), speaks("/a", "de", 10), 11, 0))), 3)
		a := roomy(c.Sent[len(c.Sent)-1])
		before, beforeAnswer := partsText(c), partsText(a)
		first := verdictOf(c)
		place := impl.Comes(c, a)
		// What was told is told again, as nothing is kept.
		impl.JudgeAll(judged())
		impl.JudgeAll(impl.Cache{})
		if verdictOf(c) != first || impl.Comes(c, a) != place {
			t.Fatalf("%s is judged otherwise the second time", inShort(c))
		}
		if partsText(c) != before || partsText(a) != beforeAnswer {
			t.Fatalf("%s was written into, or its room: %s", inShort(was), inShort(c))
		}
	}
}

// judgeRow are deeds by a row of numbers: more paths than cells, lives that end
// soon, and power that is lost often, with any part of what was not flushed.
func judgeRow(number uint32, n int) []impl.Deed {
	next := func(below int) int {
		number = number*1664525 + 1013904223
		return int(number>>8) % below
	}
	var list []impl.Deed
	for client := range n {
		path := fmt.Sprintf("/%d", next(9))
		switch kind := next(100); {
		case kind < 45:
			q := asksIn(path, []string{"de", "en"}[next(2)])
			switch next(9) {
			case 0:
				q.Fields = append(q.Fields, fieldsOf("cache-control", "no-cache")...)
			case 1:
				q.Fields = append(q.Fields, fieldsOf("if-none-match", fmt.Sprint("v", next(3)))...)
			case 2:
				q.Fields = nil
			}
			list = append(list, askDeed(client, q))
		case kind < 78:
			r := tells("cache-control", fmt.Sprint("max-age=", next(12)), "etag", fmt.Sprint("v", next(3)))
			r.Body = fmt.Sprint("b", client)
			switch next(4) {
			case 0:
				r = same304([][]string{nil, {"cache-control", "max-age=20"}, {"etag", "v1", "age", "2"}, {"vary", "Lang"}, {"vary", "x"}}[next(5)]...)
			case 1:
				r.Fields = append(r.Fields, fieldsOf("vary", []string{"lang", "lang, x", "*"}[next(3)])...)
			}
			list = append(list, replyDeed(next(3), r))
		case kind < 80:
			list = append(list, failDeed(next(4)))
		case kind < 90:
			list = append(list, tickDeed(next(4)))
		case kind < 91:
			list = append(list, askDeed(client, purges(path)))
		case kind < 92:
			list = append(list, banDeed([]impl.Ban{banBelow(path, 0), banField("etag", fmt.Sprint("v", next(3)), 0)}[next(2)]))
		case kind < 93:
			list = append(list, syncDeed())
		default:
			keep := make([]bool, next(17))
			for i := range keep {
				keep[i] = next(3) > 0
			}
			list = append(list, crashDeed(keep...))
		}
	}
	return list
}

func checkPromise17(t *testing.T, c impl.Cache) {
	t.Helper()
	if got := verdictOf(c); got != lacks() {
		t.Fatalf("%s is judged %+v", inShort(c), got)
	}
}

func TestPromise17OverLongRuns(t *testing.T) {
	told, bans, merged := map[int]int{}, 0, 0
	for number := range uint32(40) {
		row := judgeRow(number, 200)
		if number%4 == 3 {
			row = deedRow(number, 200)
		}
		c := impl.CacheNew()
		for at := 0; at < len(row); at += 10 {
			c, _ = impl.CacheRun(c, row[at:at+10])
			checkPromise17(t, c)
		}
		if want := verdictByHand(c); want != lacks() {
			t.Fatalf("%s is %+v by hand", inShort(c), want)
		}
		keeps := someKeeps()
		for i := int(number) % 5; i < len(keeps); i += 5 {
			lost, _ := impl.CacheDo(c, crashDeed(keeps[i]...))
			checkPromise17(t, lost)
		}
		for _, a := range c.Sent {
			told[a.Kind]++
			if a.Kind == impl.AnHere && c.Seen[impl.Comes(c, a)].T < a.Obj.T {
				merged++
			}
			bans = max(bans, a.Bans)
		}
	}
	if told[impl.AnHere] < 100 || told[impl.AnSame] < 20 || merged < 10 || bans < 4 {
		t.Errorf("too little was done: %v, of what was renewed %d, with %d bans", told, merged, bans)
	}
}

// Where a client asks twice, JudgeOnce may say no, but JudgeAll says yes.
func TestPromise17OfOneClient(t *testing.T) {
	for number := range uint32(12) {
		c := impl.CacheNew()
		row := judgeRow(100+number, 100)
		for i := range row {
			row[i].Client = int(number) % 3 * (i % 5)
		}
		c, _ = impl.CacheRun(c, row)
		if got := checkJudges(t, c); got != lacks("once") {
			t.Fatalf("%s is judged %+v", inShort(c), got)
		}
	}
}

// Whatever few things are done one behind the other, all is well.
func TestPromise17OverAllShortRuns(t *testing.T) {
	q, other := asksIn("/a", "de"), asksIn("/a", "en")
	deeds := []impl.Deed{askDeed(0, q), askDeed(0, other), replyDeed(0, speaks("/a", "de", 1).Resp), replyDeed(0, keepable(3)), replyDeed(0, same304()), tickDeed(2), tickDeed(5), askDeed(0, purges("/a")), crashDeed(), crashDeed(true, true)}
	see := func(c impl.Cache, left int) {
		if !impl.JudgeAll(c) || !impl.JudgeOnce(c) || left == 1 && verdictByHand(c) != lacks() {
			t.Fatalf("%s is judged %+v, by hand %+v", inShort(c), verdictOf(c), verdictByHand(c))
		}
	}
	known, _ := impl.CacheRun(impl.CacheNew(), []impl.Deed{askDeed(90, q), replyDeed(0, speaks("/a", "de", 1).Resp)})
	old, _ := impl.CacheRun(known, []impl.Deed{syncDeed(), tickDeed(6), askDeed(91, q)})
	for _, c := range []impl.Cache{impl.CacheNew(), known, old} {
		eachShortRun(c, deeds, 4, see)
	}
}

// What was banned is answered with no more, whatever is lost, and the judge
// would tell if it were.
func TestPromise17OfWhatWasBanned(t *testing.T) {
	q := asksIn("/b", "de")
	for _, b := range []impl.Ban{banPath("/b", 0), banBelow("/", 0), banField("etag", "v11", 0)} {
		c, _ := impl.CacheRun(impl.CacheNew(), judgedDeeds()[:9])
		was := c.Sent[len(c.Sent)-1]
		if was.Kind != impl.AnHere {
			t.Fatalf("there was answered %s", inShort(was))
		}
		c, _ = impl.CacheRun(c, []impl.Deed{banDeed(b), crashDeed(), askDeed(20, q)})
		checkPromise17(t, c)
		if len(c.Flights) != 1 || c.Flights[0].HasOld {
			t.Fatalf("there is %s", inShort(c))
		}
		c.Sent = append(c.Sent, fromHere(21, q, was.Obj, c.Now, len(c.Shelf.Bans)))
		checkVerdict(t, c, lacks("bans"))
		// What comes behind it is answered with again.
		c.Sent = c.Sent[:len(c.Sent)-1]
		c, _ = impl.CacheRun(c, []impl.Deed{tickDeed(1), replyDeed(0, was.Obj.Resp), askDeed(22, q)})
		if c.Sent[len(c.Sent)-1].Kind != impl.AnHere {
			t.Fatalf("there was answered %s", inShort(c.Sent))
		}
		checkPromise17(t, c)
	}
}

func TestPromise17JudgesAnswerAnything(t *testing.T) {
	long := strings.Repeat("x", 20000)
	odd := impl.Obj{Path: long, Names: make([]string, 100), Values: make([]string, 100), Resp: impl.Resp{Status: math.MinInt, Fields: make([]impl.Field, 100), Body: long}, T: math.MaxInt}
	asked := impl.Req{Method: math.MinInt, Path: long, Fields: make([]impl.Field, 1000), Body: long}
	told := impl.Resp{Status: math.MaxInt, Fields: make([]impl.Field, 1000), Body: long}
	strange := judged()
	strange.Seen = append(strange.Seen, impl.Seen{Q: asked, Resp: told, T: math.MinInt}, impl.Seen{Q: impl.Req{Method: 1, Path: long}, Resp: impl.Resp{Status: 200, Body: long}, T: math.MinInt})
	for _, bans := range []int{math.MinInt, -1, 0, 2, math.MaxInt} {
		for _, at := range []int{math.MinInt, -1, 0, math.MaxInt} {
			strange.Sent = append(strange.Sent, impl.Reply{Client: bans, Q: asked, Resp: told, Kind: impl.AnHere, T: at, Obj: odd, Bans: bans})
		}
	}
	much := impl.Cache{Shelf: impl.Shelf{Objs: make([]impl.Kept, 1000), Bans: make([]impl.Ban, 1000)}, Flights: make([]impl.Flight, 1000), Now: math.MinInt, Seen: make([]impl.Seen, 5000), Sent: make([]impl.Reply, 5000)}
	busyLists := withLists(busy(), 1500, 1500)
	for i := range busyLists.Sent {
		busyLists.Sent[i].Kind = impl.AnHere
	}
	for _, c := range []impl.Cache{{}, strange, much, busyLists} {
		checkJudges(t, c)
		for _, a := range []impl.Reply{{}, {Obj: odd}, {Client: math.MinInt, Q: asked, Resp: told, Kind: math.MinInt, T: math.MinInt, Obj: odd, Bans: math.MinInt}} {
			checkComes(t, c, a, comesByHand(c, a))
		}
	}
}
