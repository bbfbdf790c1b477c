package tests

import (
	"cmp"
	"fmt"
	"math"
	"runtime"
	"slices"
	"strings"
	"sync"
	"testing"
	"unsafe"

	"loop.example/g00239/impl"
)

func waitingByHand(c impl.Cache) []int {
	var all []int
	for i := len(c.Flights) - 1; i >= 0; i-- {
		all = append(slices.Clone(c.Flights[i].Who), all...)
	}
	return all
}

func drainByHand(c impl.Cache) impl.Cache {
	for cacheOkByHand(c) && len(c.Flights) > 0 && len(c.Sent) < 1495 {
		c = overByHand(c, 0, 4, impl.Resp{Status: 504})
	}
	return c
}

func servedByHand(c impl.Cache, client int) (first impl.Resp, ok bool) {
	for i := len(c.Sent) - 1; i >= 0; i-- {
		if c.Sent[i].Client == client {
			first, ok = c.Sent[i].Resp, true
		}
	}
	return first, ok
}

func shareByHand(c impl.Cache) (int, int) {
	told := map[int]int{}
	for _, a := range c.Sent {
		told[a.Kind]++
	}
	return told[1], told[2] + told[3]
}

func checkWaiting(t *testing.T, c impl.Cache, want ...int) {
	t.Helper()
	if got := impl.Waiting(c); !slices.Equal(got, want) || !slices.Equal(waitingByHand(c), want) {
		t.Fatalf("Waiting(%s) = %v, not %v", inShort(c.Flights), got, want)
	}
}

// checkDrain is for a cache of which the answer is known by the model alone.
func checkDrain(t *testing.T, c impl.Cache) impl.Cache {
	t.Helper()
	got, want := impl.Drain(c), drainByHand(c)
	if !sameCache(got, want) {
		t.Fatalf("Drain(%s) = %s, not %s", inShort(c), inShort(got), inShort(want))
	}
	return got
}

// checkDrained tells without any model what stays, and what is answered behind
// what was: each client of the flights ahead of those that stay.
func checkDrained(t *testing.T, c impl.Cache, over int) impl.Cache {
	t.Helper()
	got := checkDrain(t, c)
	var want []impl.Reply
	for _, f := range c.Flights[:over] {
		for _, client := range f.Who {
			want = append(want, impl.Reply{Client: client, Q: f.Q, Resp: impl.Resp{Status: 504}, Kind: impl.AnNot, T: c.Now})
		}
	}
	checkSent(t, got, len(c.Sent), want...)
	was := c
	was.Flights, was.Sent = c.Flights[over:], slices.Concat(c.Sent, want)
	if !sameCache(got, was) {
		t.Fatalf("Drain(%s) = %s, of which %d flights are over", inShort(c), inShort(got), over)
	}
	return got
}

// checkUndrained is for a cache that stays as it is.
func checkUndrained(t *testing.T, c impl.Cache) {
	t.Helper()
	if got := checkDrain(t, c); !sameCache(got, c) {
		t.Fatalf("Drain(%s) = %s", inShort(c), inShort(got))
	}
}

func checkServed(t *testing.T, c impl.Cache, client int, want impl.Resp) {
	t.Helper()
	byHand, found := servedByHand(c, client)
	if got, ok := impl.Served(c, client); !ok || !found || !sameResp(got, want) || !sameResp(byHand, want) {
		t.Fatalf("Served(%s, %d) = %s, %v, not %s", inShort(c.Sent), client, inShort(got), ok, inShort(want))
	}
}

func checkUnserved(t *testing.T, c impl.Cache, clients ...int) {
	t.Helper()
	for _, client := range clients {
		_, found := servedByHand(c, client)
		if got, ok := impl.Served(c, client); ok || found || !sameResp(got, impl.Resp{}) {
			t.Fatalf("Served(%s, %d) = %s, %v", inShort(c.Sent), client, inShort(got), ok)
		}
	}
}

func checkShare(t *testing.T, c impl.Cache, here, there int) {
	t.Helper()
	gotHere, gotThere := impl.Share(c)
	if byHere, byThere := shareByHand(c); gotHere != here || gotThere != there || byHere != here || byThere != there {
		t.Fatalf("Share(%s) = %d, %d, not %d, %d", inShort(c.Sent), gotHere, gotThere, here, there)
	}
}

// checkEnd holds all of a cache to the models.
func checkEnd(t *testing.T, c impl.Cache) {
	t.Helper()
	checkWaiting(t, c, waitingByHand(c)...)
	here, there := shareByHand(c)
	checkShare(t, c, here, there)
	clients := []int{math.MinInt, -1, 0, 1, math.MaxInt}
	for i := 0; i < len(c.Sent); i += 1 + len(c.Sent)/20 {
		clients = append(clients, c.Sent[i].Client, c.Sent[i].Client+1)
	}
	for _, client := range clients {
		if r, ok := servedByHand(c, client); ok {
			checkServed(t, c, client, r)
		} else {
			checkUnserved(t, c, client)
		}
	}
	checkDrain(t, c)
}

// fliesAll are flights of which no two are alike, each of these clients.
func fliesAll(whos ...[]int) []impl.Flight {
	var all []impl.Flight
	for i, who := range whos {
		all = append(all, flies(asksIn(fmt.Sprintf("/f%d", i), "de"), who...))
	}
	return all
}

func withFlights(c impl.Cache, whos ...[]int) impl.Cache {
	c.Flights = fliesAll(whos...)
	return c
}

// answers is what a client was told, of a body by which it is known again.
func answers(client, kind int, body string) impl.Reply {
	return impl.Reply{Client: client, Kind: kind, Q: asks(), Resp: impl.Resp{Status: 200, Fields: fieldsOf("etag", "v-"+body), Body: body}}
}

func told(body string) impl.Resp { return answers(0, 0, body).Resp }

func withSent(list ...impl.Reply) impl.Cache {
	c := impl.CacheNew()
	c.Sent = list
	return c
}

func manyAnswers(n int) []impl.Reply {
	var list []impl.Reply
	for i := range n {
		list = append(list, answers(1000+i, 1+i%4, fmt.Sprint("b", i)))
	}
	return list
}

func TestWaitingOfNoFlight(t *testing.T) {
	checkWaiting(t, impl.CacheNew())
	checkWaiting(t, impl.Cache{})
	checkWaiting(t, withLists(impl.CacheNew(), 9, 9))
	c := busy()
	c.Flights = []impl.Flight{}
	checkWaiting(t, c)
	c.Flights = nil
	checkWaiting(t, c)
}

func TestWaitingOfOneFlight(t *testing.T) {
	for _, who := range [][]int{{3}, {0}, {-1}, {math.MinInt}, {math.MaxInt}, {1, 2}, {2, 1}, {5, 4, 3, 2, 1}, {4, 1, 5, 2, 3}, {-1, 0, 1}, {7, 7}, {7, 8, 7}, {0, 0, 0, 0, 0}} {
		checkWaiting(t, withFlights(impl.CacheNew(), who), who...)
		checkWaiting(t, withFlights(busy(), who), who...)
		c := busy()
		c.Flights = []impl.Flight{fliesFor(asksIn("/b", "de"), speaks("/b", "de", 3), who...)}
		checkWaiting(t, c, who...)
	}
}

func TestWaitingInOrder(t *testing.T) {
	checkWaiting(t, busy(), 1, 2, 3, 4)
	checkWaiting(t, withFlights(busy(), []int{4}, []int{3}, []int{1, 2}), 4, 3, 1, 2)
	checkWaiting(t, withFlights(busy(), []int{9, 1}, []int{8, 2}, []int{7, 3}), 9, 1, 8, 2, 7, 3)
	checkWaiting(t, withFlights(busy(), []int{-5}, []int{math.MaxInt, 0}, []int{math.MinInt}), -5, math.MaxInt, 0, math.MinInt)
	c := busy()
	c.Flights = manyFlights(5)
	checkWaiting(t, c, 100, 100, 101, 100, 101, 102, 100, 101, 102, 103, 100, 101, 102, 103, 104)
	slices.Reverse(c.Flights)
	checkWaiting(t, c, 100, 101, 102, 103, 104, 100, 101, 102, 103, 100, 101, 102, 100, 101, 100)
}

// Who waits in two places is told in both, and who is answered beside waiting
// is told all the same.
func TestWaitingTwice(t *testing.T) {
	checkWaiting(t, withFlights(busy(), []int{6, 6}), 6, 6)
	checkWaiting(t, withFlights(busy(), []int{6, 5}, []int{5, 6}), 6, 5, 5, 6)
	checkWaiting(t, withFlights(busy(), []int{9}, []int{8}, []int{9}), 9, 8, 9)
	for _, c := range []impl.Cache{withFlights(busy(), []int{9, 8, 3}), withFlights(withSent(answers(9, 1, "x"), answers(8, 4, "y")), []int{9, 8, 3})} {
		checkWaiting(t, c, 9, 8, 3)
	}
}

func TestWaitingAsTheyCome(t *testing.T) {
	c := impl.CacheNew()
	var want []int
	for i, q := range []impl.Req{asksIn("/a", "de"), asksIn("/b", "de"), asksIn("/c", "de"), posts("/a"), posts("/a")} {
		c = checkDeed(t, c, askDeed(30-i, q), impl.CdDone)
		want = append(want, 30-i)
		checkWaiting(t, c, want...)
	}
	c = checkDeed(t, c, askDeed(31, asksIn("/b", "de")), impl.CdDone)
	checkWaiting(t, c, 30, 29, 31, 28, 27, 26)
	c = checkDeed(t, c, askDeed(32, asksIn("/e", "de")), impl.CdDone)
	checkWaiting(t, c, 30, 29, 31, 28, 27, 26)
	c = checkDeed(t, c, replyDeed(1, keepable(5)), impl.CdDone)
	checkWaiting(t, c, 30, 28, 27, 26)
	c = checkDeed(t, c, failDeed(0), impl.CdDone)
	checkWaiting(t, c, 28, 27, 26)
	c = checkDeed(t, c, askDeed(33, asksIn("/b", "de")), impl.CdDone)
	checkWaiting(t, c, 28, 27, 26)
	c = checkDeed(t, c, crashDeed(true), impl.CdDone)
	checkWaiting(t, c)
}

// Of what is no cache all who wait are told as well.
func TestWaitingOfNoCache(t *testing.T) {
	for _, c := range wrongCaches() {
		checkWaiting(t, c, waitingByHand(c)...)
	}
	for _, one := range wrongsOf() {
		c := judged()
		one.make(&c)
		checkWaiting(t, c, waitingByHand(c)...)
	}
	checkWaiting(t, impl.Cache{Now: -1, Flights: []impl.Flight{{Who: []int{3, 1}}, {Who: []int{2}}}}, 3, 1, 2)
	checkWaiting(t, impl.Cache{Flights: []impl.Flight{{}, {Who: []int{3, 1}}, {}, {Who: []int{}}, {Who: []int{2}}, {}}}, 3, 1, 2)
	checkWaiting(t, impl.Cache{Flights: make([]impl.Flight, 50)})
	many := impl.Cache{Flights: slices.Repeat([]impl.Flight{flies(asks(), manyClients(1000)...)}, 30)}
	checkWaiting(t, many, slices.Repeat(manyClients(1000), 30)...)
}

func TestDrainOfNoFlight(t *testing.T) {
	checkUndrained(t, impl.CacheNew())
	for _, sent := range []int{0, 1, 1494, 1495, 1496, 1500} {
		c := withLists(busy(), 7, sent)
		c.Flights = nil
		checkUndrained(t, c)
	}
}

func TestDrainOfOneFlight(t *testing.T) {
	for _, who := range [][]int{{3}, {0}, {-1}, {math.MinInt}, {2, 1}, {5, 4, 3, 2, 1}, {7, 7}, {9, 8}} {
		for _, c := range []impl.Cache{withFlights(impl.CacheNew(), who), withFlights(busy(), who)} {
			checkWaiting(t, checkDrained(t, c, 1))
		}
		// What is kept of it is of no use, however fresh.
		c := busy()
		c.Flights = []impl.Flight{fliesFor(asksIn("/a", "de"), speaks("/a", "de", 10), who...)}
		checkWaiting(t, checkDrained(t, c, 1))
	}
}

func TestDrainOfSeveralFlights(t *testing.T) {
	c := checkDrained(t, busy(), 3)
	checkWaiting(t, c)
	if len(c.Sent) != 6 || c.Sent[2].Client != 1 || c.Sent[3].Client != 2 || c.Sent[4].Client != 3 || c.Sent[5].Client != 4 {
		t.Fatalf("there was answered %s", inShort(c.Sent))
	}
	for i, q := range []impl.Req{asks("x", "1"), asks("x", "1"), asksIn("/b", "de"), posts("/a")} {
		if a := c.Sent[2+i]; !sameReply(a, impl.Reply{Client: 1 + i, Q: q, Resp: impl.Resp{Status: 504}, Kind: 4, T: 12}) {
			t.Fatalf("the %d. was answered %s", i, inShort(a))
		}
	}
	for n := range 6 {
		for _, was := range []impl.Cache{impl.CacheNew(), busy(), judged()} {
			was.Flights = manyFlights(n)
			checkWaiting(t, checkDrained(t, was, n))
			slices.Reverse(was.Flights)
			checkWaiting(t, checkDrained(t, was, n))
		}
	}
	checkDrained(t, withFlights(busy(), []int{9, 1}, []int{1, 9}, []int{-4}), 3)
}

func TestDrainOfRightCaches(t *testing.T) {
	for _, c := range rightCaches() {
		checkWaiting(t, checkDrained(t, c, len(c.Flights)))
	}
}

func TestDrainOfNoCache(t *testing.T) {
	for _, c := range wrongCaches() {
		checkUndrained(t, c)
	}
	for _, one := range wrongsOf() {
		c := judged()
		one.make(&c)
		checkUndrained(t, c)
	}
	checkUndrained(t, impl.Cache{Flights: []impl.Flight{flies(asks(), 1)}})
	checkUndrained(t, impl.Cache{Now: 5, Sent: []impl.Reply{{Client: 3}}})
	for n, over := range map[int]int{4: 4, 5: 5, 6: 0, 7: 0} {
		c := busy()
		c.Flights = manyFlights(n)
		checkDrained(t, c, over)
	}
	c := withLists(busy(), 1501, 0)
	checkUndrained(t, c)
	c.Seen = c.Seen[:1500]
	checkDrained(t, c, 3)
}

// How much the origin told is nothing to it: there is room wanted for answers
// alone.
func TestDrainWithFullSeen(t *testing.T) {
	for _, seen := range []int{0, 1494, 1495, 1500} {
		checkWaiting(t, checkDrained(t, withLists(busy(), seen, 9), 3))
	}
}

func TestDrainWhereRoomIsOut(t *testing.T) {
	five := []int{11, 12, 13, 14, 15}
	all := [][]int{five, five, five, five, five}
	for _, row := range []struct {
		sent int
		whos [][]int
		over int
	}{
		{1493, [][]int{{1}}, 1}, {1494, [][]int{{1}}, 1}, {1495, [][]int{{1}}, 0}, {1496, [][]int{{1}}, 0}, {1499, [][]int{{1}}, 0}, {1500, [][]int{{1}}, 0},
		{1494, [][]int{five}, 1}, {1495, [][]int{five}, 0}, {1500, [][]int{five}, 0},
		{1493, [][]int{{1}, {2}}, 2}, {1494, [][]int{{1}, {2}}, 1}, {1493, [][]int{{1}, {2}, {3}}, 2}, {1492, [][]int{{1}, {2}, {3}}, 3},
		{1493, [][]int{{1, 2}, {3}}, 1}, {1492, [][]int{{1, 2}, {3}}, 2}, {1494, [][]int{{1, 2}, {3}}, 1},
		{1474, all, 5}, {1475, all, 4}, {1479, all, 4}, {1480, all, 3}, {1484, all, 3}, {1485, all, 2}, {1489, all, 2}, {1490, all, 1}, {1494, all, 1}, {1495, all, 0},
	} {
		c := withFlights(withLists(busy(), 0, row.sent), row.whos...)
		got := checkDrained(t, c, row.over)
		checkWaiting(t, got, slices.Concat(row.whos[row.over:]...)...)
		if !impl.CacheOk(got) {
			t.Fatalf("drained of %d there is no cache, of %d", row.sent, len(got.Sent))
		}
	}
	checkUndrained(t, withLists(busy(), 0, 1501))
}

func TestDrainAtEachLength(t *testing.T) {
	for sent := 1465; sent <= 1501; sent++ {
		for _, whos := range [][][]int{{{1}}, {{1, 2, 3, 4, 5}}, {{1}, {2, 3}, {4}}, {{1, 2}, {3}, {4, 5, 6, 7, 8}}, {{1, 2, 3, 4, 5}, {6, 7, 8, 9}, {10}, {11, 12, 13}, {14, 15}}} {
			c := withFlights(withLists(busy(), 3, sent), whos...)
			over, n := 0, sent
			for over < len(whos) && n <= 1494 {
				n += len(whos[over])
				over++
			}
			if sent > 1500 {
				over = 0
			}
			checkDrained(t, c, over)
		}
	}
}

// Where there was no room, it goes on where there is some again.
func TestDrainGoesOn(t *testing.T) {
	c := withFlights(withLists(busy(), 0, 1493), []int{1}, []int{2}, []int{3}, []int{4})
	c = checkDrained(t, c, 2)
	checkUndrained(t, c)
	c.Sent = c.Sent[1494:]
	checkUnserved(t, c, 1, 3, 4)
	c = checkDrained(t, c, 2)
	checkWaiting(t, c)
	checkUndrained(t, c)
	for _, client := range []int{2, 3, 4} {
		checkServed(t, c, client, impl.Resp{Status: 504})
	}
}

// It is what failing one behind the other is.
func TestDrainIsToFailAgainAndAgain(t *testing.T) {
	caches := append(rightCaches(), wrongCaches()...)
	caches = append(caches, movedCaches()...)
	for sent := 1470; sent < 1502; sent++ {
		c := withLists(busy(), 0, sent)
		c.Flights = manyFlights(1 + sent%5)
		caches = append(caches, c)
	}
	for _, c := range caches {
		want := c
		for {
			after, code := impl.CacheDo(want, failDeed(0))
			if code != impl.CdDone {
				break
			}
			want = after
		}
		if got := checkDrain(t, c); !sameCache(got, want) {
			t.Fatalf("Drain(%s) = %s, not %s", inShort(c), inShort(got), inShort(want))
		}
		run, _ := impl.CacheRun(c, slices.Repeat([]impl.Deed{failDeed(0)}, 7))
		if !sameCache(run, want) {
			t.Fatalf("of %s there is %s, not %s", inShort(c), inShort(run), inShort(want))
		}
		checkUndrained(t, want)
	}
}

func TestServedOnce(t *testing.T) {
	c := withSent(answers(5, impl.AnHere, "x"), answers(2, impl.AnThere, "y"), answers(9, impl.AnSame, "z"), answers(1, impl.AnNot, "w"))
	for client, body := range map[int]string{5: "x", 2: "y", 9: "z", 1: "w"} {
		checkServed(t, c, client, told(body))
	}
	checkUnserved(t, c, 0, 3, 4, 6, 8, 10, -1, -5, math.MinInt, math.MaxInt)
	for _, kind := range []int{math.MinInt, -1, 0, 5, math.MaxInt} {
		checkServed(t, withSent(answers(5, kind, "x")), 5, told("x"))
	}
}

func TestServedFirst(t *testing.T) {
	for _, others := range [][]impl.Reply{nil, {answers(1, 1, "o")}, {answers(1, 1, "o"), answers(2, 2, "p"), answers(1, 3, "q")}} {
		for n := 1; n < 5; n++ {
			var list []impl.Reply
			for i := range n {
				list = append(list, others...)
				list = append(list, answers(7, 1+(n+i)%4, fmt.Sprint("b", i)))
			}
			list = append(list, others...)
			checkServed(t, withSent(list...), 7, told("b0"))
			slices.Reverse(list)
			checkServed(t, withSent(list...), 7, told(fmt.Sprint("b", n-1)))
		}
	}
	// The first one is that of the first place, whenever it was, and however
	// little it tells.
	c := withSent(answers(7, 4, "x"), answers(7, 1, "y"), answers(7, 2, "z"))
	c.Sent[0].T, c.Sent[1].T, c.Sent[2].T = 9, 3, 6
	checkServed(t, c, 7, told("x"))
	c.Sent[0].Resp = impl.Resp{}
	checkServed(t, c, 7, impl.Resp{})
	c.Sent[0].Resp = impl.Resp{Status: 504}
	checkServed(t, c, 7, impl.Resp{Status: 504})
}

func TestServedNever(t *testing.T) {
	for _, c := range []impl.Cache{{}, impl.CacheNew(), withFlights(impl.CacheNew(), []int{1, 0}, []int{-1})} {
		checkUnserved(t, c, 0, 1, 2, -1, math.MinInt, math.MaxInt)
	}
	c := busy()
	checkUnserved(t, c, 1, 2, 3, 4, 0, 7, 10, -8, -9)
	checkServed(t, c, 9, speaks("/b", "de", 3).Resp)
	checkServed(t, c, 8, tells("age", "1"))
	c.Sent = nil
	checkUnserved(t, c, 8, 9, 1, 0)
}

// Who still waits is told what it was answered ahead, if anything.
func TestServedWhoStillWaits(t *testing.T) {
	c := withFlights(withSent(answers(7, 1, "x")), []int{7, 8}, []int{8, 7})
	checkServed(t, c, 7, told("x"))
	checkUnserved(t, c, 8)
	c = checkDrained(t, c, 2)
	checkServed(t, c, 7, told("x"))
	checkServed(t, c, 8, impl.Resp{Status: 504})
}

func TestServedAnyClient(t *testing.T) {
	clients := []int{math.MinInt, math.MinInt + 1, -1000, -1, 0, 1, 1000, 1 << 32, -1 << 32, 1<<32 + 1, math.MaxInt - 1, math.MaxInt}
	for i, client := range clients {
		checkServed(t, withSent(answers(client, 1, "x")), client, told("x"))
		for j, other := range clients {
			if i != j {
				checkUnserved(t, withSent(answers(other, 1, "x")), client)
				checkServed(t, withSent(answers(other, 1, "x"), answers(client, 1, "y"), answers(other, 1, "z")), client, told("y"))
			}
		}
	}
	// Places in Sent are no clients.
	c := withSent(answers(2, 1, "x"), answers(0, 1, "y"), answers(1, 1, "z"))
	for client, body := range []string{"y", "z", "x"} {
		checkServed(t, c, client, told(body))
	}
}

func TestServedOfMany(t *testing.T) {
	for _, n := range []int{1, 2, 255, 256, 257, 1499, 1500, 1501, 5000} {
		c := withSent(append(manyAnswers(n), manyAnswers(n/2)...)...)
		for _, i := range []int{0, 1, n / 3, n / 2, n - 2, n - 1} {
			if 0 <= i && i < n {
				c.Sent[i].Resp.Body = "own"
				want := told(fmt.Sprint("b", i))
				want.Body = "own"
				checkServed(t, c, 1000+i, want)
			}
		}
		checkUnserved(t, c, 999, 1000+n, 0, -1, -1000)
	}
}

func TestServedAsTheyAreAnswered(t *testing.T) {
	c, _ := impl.CacheRun(impl.CacheNew(), judgedDeeds())
	checkServed(t, c, 1, speaks("/a", "de", 10).Resp)
	checkServed(t, c, 2, answerByHand(asksIn("/a", "de"), speaks("/a", "de", 10), 11))
	checkServed(t, c, 4, impl.Resp{Status: 200})
	checkServed(t, c, 7, impl.Resp{Status: 304, Fields: fieldsOf("cache-control", "max-age=5", "vary", "lang", "etag", "v10", "age", "0")})
	checkServed(t, c, 8, impl.Resp{Status: 504})
	checkUnserved(t, c, 0, 11, 12, 13, 14)
	c = checkDrained(t, c, 2)
	for _, client := range []int{11, 12, 13} {
		checkServed(t, c, client, impl.Resp{Status: 504})
	}
	checkShare(t, c, 4, 4)
	// Whom a crash took is not answered.
	c, _ = impl.CacheRun(impl.CacheNew(), append(judgedDeeds(), crashDeed(true, true)))
	checkUnserved(t, checkDrained(t, c, 0), 11, 12, 13)
}

func TestServedOfNoCache(t *testing.T) {
	for _, c := range append(wrongCaches(), impl.Cache{}) {
		c.Sent = append(slices.Clone(c.Sent), answers(71, 1, "x"), answers(72, 2, "y"), answers(71, 3, "z"))
		checkServed(t, c, 71, told("x"))
		checkServed(t, c, 72, told("y"))
		checkUnserved(t, c, 70, 73, -71)
	}
}

func TestShareOfNone(t *testing.T) {
	checkShare(t, impl.Cache{}, 0, 0)
	checkShare(t, impl.CacheNew(), 0, 0)
	checkShare(t, withSent([]impl.Reply{}...), 0, 0)
	c := busy()
	c.Sent = nil
	checkShare(t, c, 0, 0)
}

func TestShareOfEachKind(t *testing.T) {
	for n := 1; n < 5; n++ {
		checkShare(t, withSent(slices.Repeat([]impl.Reply{answers(1, impl.AnHere, "x")}, n)...), n, 0)
		checkShare(t, withSent(slices.Repeat([]impl.Reply{answers(1, impl.AnThere, "x")}, n)...), 0, n)
		checkShare(t, withSent(slices.Repeat([]impl.Reply{answers(1, impl.AnSame, "x")}, n)...), 0, n)
		checkShare(t, withSent(slices.Repeat([]impl.Reply{answers(1, impl.AnNot, "x")}, n)...), 0, 0)
		for _, kind := range []int{math.MinInt, -4, -3, -2, -1, 0, 5, 6, 7, 1 << 32, 1<<32 + 1, 1<<32 + 2, 257, 258, math.MaxInt} {
			checkShare(t, withSent(slices.Repeat([]impl.Reply{answers(1, kind, "x")}, n)...), 0, 0)
		}
	}
}

// In whatever order they are, and whatever else an answer is.
func TestShareOfMixedKinds(t *testing.T) {
	for _, row := range sizeLists([]int{0, 1, 2, 3, 4, 5}, 4) {
		var list []impl.Reply
		here, there := 0, 0
		for i, kind := range row {
			a := impl.Reply{Client: i, Kind: kind, Resp: impl.Resp{Status: []int{200, 304, 503}[i%3]}, Bans: i}
			if i%2 == 0 {
				a.Obj = speaks("/a", "de", i)
			}
			list = append(list, a)
			here += []int{0, 1, 0, 0, 0, 0}[kind]
			there += []int{0, 0, 1, 1, 0, 0}[kind]
		}
		checkShare(t, withSent(list...), here, there)
	}
	checkShare(t, busy(), 1, 1)
	checkShare(t, judged(), 4, 3)
	checkShare(t, withSent(manyAnswers(1500)...), 375, 750)
	checkShare(t, withSent(manyAnswers(5003)...), 1251, 2502)
}

// What is drained was not asked of the origin, nor told from here.
func TestShareOfDrained(t *testing.T) {
	for _, c := range rightCaches() {
		here, there := shareByHand(c)
		checkShare(t, checkDrain(t, c), here, there)
	}
}

func TestShareOfNoCache(t *testing.T) {
	for _, c := range append(wrongCaches(), impl.Cache{}) {
		c.Sent = append(slices.Clone(c.Sent), answers(1, impl.AnHere, "x"), answers(1, impl.AnSame, "x"), answers(1, impl.AnNot, "x"), answers(1, impl.AnThere, "x"))
		here, there := shareByHand(impl.Cache{Sent: c.Sent[:len(c.Sent)-4]})
		checkShare(t, c, here+1, there+2)
	}
}

func TestEndOfManyCaches(t *testing.T) {
	for _, c := range slices.Concat(rightCaches(), wrongCaches(), movedCaches()) {
		checkEnd(t, c)
	}
}

func TestEndOfAnyBytes(t *testing.T) {
	for _, text := range fewOdd() {
		odd := impl.Resp{Status: 200, Fields: fieldsOf(text, "x", "y", text), Body: text}
		c := busy()
		c.Sent = []impl.Reply{{Client: 1, Q: impl.Req{Method: 9, Path: text, Fields: fieldsOf(text, text), Body: text}, Resp: odd, Kind: impl.AnHere, Obj: impl.Obj{Path: text, Names: []string{text}, Values: []string{text}, Resp: odd}}, answers(1, impl.AnThere, text+"x"), answers(2, impl.AnSame, text)}
		c.Seen = []impl.Seen{{Q: impl.Req{Path: text}, Resp: odd}}
		c.Flights[0].Old = impl.Obj{Path: text, Resp: odd}
		c.Shelf.Disk.Cells[9] = text
		checkServed(t, c, 1, odd)
		checkServed(t, c, 2, told(text))
		checkShare(t, c, 1, 2)
		checkDrained(t, c, 3)
		c.Flights[1].Q.Path = "/" + text
		c.Flights[2].Q.Body = text
		checkEnd(t, c)
		c.Flights[2].Q.Fields = fieldsOf("x", text)
		checkEnd(t, c)
	}
}

// endAnswers is all that there is to be told of a cache in the end.
type endAnswers struct {
	Waiting     []int
	Drained     impl.Cache
	Served      impl.Resp
	Is          bool
	Here, There int
}

func endOf(c impl.Cache, client int) endAnswers {
	var all endAnswers
	all.Waiting, all.Drained = impl.Waiting(c), impl.Drain(c)
	all.Served, all.Is = impl.Served(c, client)
	all.Here, all.There = impl.Share(c)
	return all
}

func endByHand(c impl.Cache, client int) endAnswers {
	var all endAnswers
	all.Waiting, all.Drained = waitingByHand(c), drainByHand(c)
	all.Served, all.Is = servedByHand(c, client)
	all.Here, all.There = shareByHand(c)
	return all
}

func sameEnd(a, b endAnswers) bool {
	return slices.Equal(a.Waiting, b.Waiting) && sameCache(a.Drained, b.Drained) && sameResp(a.Served, b.Served) && a.Is == b.Is && a.Here == b.Here && a.There == b.There
}

func endedCaches() []impl.Cache {
	tight := withFlights(withLists(busy(), 3, 1493), []int{1}, []int{2, 3}, []int{4, 9})
	all := append(movedCaches(), judged(), tight)
	for _, c := range []impl.Cache{busy(), {}} {
		all = append(all, withFlights(c, []int{9, 8, 1}), withFlights(c, []int{9, 8}, []int{8, 9}))
	}
	return all
}

func TestEndWritesIntoNothing(t *testing.T) {
	for _, was := range endedCaches() {
		c := roomy(was)
		before := partsText(c)
		for _, client := range []int{9, 8, 7, 1, 0, -1} {
			got := endOf(c, client)
			if !sameEnd(got, endByHand(was, client)) {
				t.Fatalf("of %s there is told %s", inShort(was), inShort(got))
			}
			turnParts(got)
			got.Waiting = append(got.Waiting, 5)
			got.Served.Fields = append(got.Served.Fields, impl.Field{})
			got.Drained.Sent = append(got.Drained.Sent, impl.Reply{})
		}
		if partsText(c) != before {
			t.Fatalf("%s was written into, or its room: %s", inShort(was), inShort(c))
		}
	}
}

// textSpans are the places of texts that share nothing with each other, in
// order.
func textSpans(texts []string) []span {
	var all []span
	for _, text := range texts {
		if text != "" {
			first := uintptr(unsafe.Pointer(unsafe.StringData(text)))
			all = append(all, span{first, first + uintptr(len(text))})
		}
	}
	slices.SortFunc(all, func(a, b span) int { return cmp.Compare(a.first, b.first) })
	return all
}

func meetsAny(one span, sorted []span) bool {
	at, _ := slices.BinarySearchFunc(sorted, one.behind, func(other span, behind uintptr) int { return cmp.Compare(other.first, behind) })
	return at > 0 && one.meets(sorted[at-1])
}

func TestEndIsNewMemory(t *testing.T) {
	for _, was := range endedCaches() {
		for _, client := range []int{9, 8, 7, 1} {
			c := roomy(was)
			givenTexts, given := partsTextsAndSpans(c)
			givenSpans := textSpans(givenTexts)
			all := endOf(c, client)
			texts, told := partsTextsAndSpans(all)
			for i, one := range told {
				if slices.ContainsFunc(told[:i], one.meets) || slices.ContainsFunc(given, one.meets) {
					t.Fatalf("a list of %s shares memory with another one", inShort(all))
				}
			}
			for _, one := range textSpans(texts) {
				if meetsAny(one, givenSpans) {
					t.Fatalf("a text of %s shares memory with an argument", inShort(all))
				}
			}
			runtime.KeepAlive(c)
			runtime.KeepAlive(texts)
		}
	}
}

// What was told is told again, whatever was asked between, as nothing is kept.
func TestEndKeepsNothing(t *testing.T) {
	caches := append(endedCaches(), impl.Cache{}, impl.CacheNew())
	for range 3 {
		for i := range caches {
			c := caches[(i*5)%len(caches)]
			for _, client := range []int{9, 1, 7} {
				if got := endOf(c, client); !sameEnd(got, endByHand(c, client)) {
					t.Fatalf("of %s there is told %s", inShort(c), inShort(got))
				}
			}
		}
	}
}

// Many who ask of one cache at the same time are told the same.
func TestEndAtTheSameTime(t *testing.T) {
	for _, c := range endedCaches() {
		want := endByHand(c, 9)
		told := make([]endAnswers, 16)
		start := make(chan struct{})
		var joined sync.WaitGroup
		for i := range told {
			joined.Go(func() {
				<-start
				told[i] = endOf(c, 9)
			})
		}
		close(start)
		joined.Wait()
		for _, got := range told {
			if !sameEnd(got, want) {
				t.Fatalf("of %s there is told %s, not %s", inShort(c), inShort(got), inShort(want))
			}
		}
	}
}

// checkPromise18 is for a cache with room for all who wait, to which no client
// has come twice.
func checkPromise18(t *testing.T, c impl.Cache) {
	t.Helper()
	waiting, got := impl.Waiting(c), impl.Drain(c)
	if left := impl.Waiting(got); len(left) != 0 || len(got.Flights) != 0 {
		t.Fatalf("drained of %s there wait %v", inShort(c.Flights), left)
	}
	if len(got.Sent) != len(c.Sent)+len(waiting) || !slices.EqualFunc(got.Sent[:len(c.Sent)], c.Sent, sameReply) {
		t.Fatalf("what was answered is %s, not %s and %v", inShort(got.Sent), inShort(c.Sent), waiting)
	}
	for i, client := range waiting {
		if a := got.Sent[len(c.Sent)+i]; a.Client != client || a.Kind != impl.AnNot || !sameResp(a.Resp, impl.Resp{Status: 504}) {
			t.Fatalf("the client %d was answered %s", client, inShort(a))
		}
	}
	if !impl.JudgeOnce(got) || !impl.JudgeAll(got) {
		t.Fatalf("%s is judged %+v", inShort(got), verdictOf(got))
	}
	times := map[int]int{}
	for _, a := range got.Sent {
		if times[a.Client]++; times[a.Client] > 1 {
			t.Fatalf("the client %d is answered twice", a.Client)
		}
		if r, ok := impl.Served(got, a.Client); !ok || !sameResp(r, a.Resp) {
			t.Fatalf("the client %d is told %s, not %s", a.Client, inShort(r), inShort(a))
		}
	}
	here, there := impl.Share(c)
	if drainedHere, drainedThere := impl.Share(got); drainedHere != here || drainedThere != there || here+there > len(c.Sent) {
		t.Fatalf("drained there are %d and %d, not %d and %d", drainedHere, drainedThere, here, there)
	}
	if !sameShelf(got.Shelf, c.Shelf) || got.Now != c.Now || !slices.EqualFunc(got.Seen, c.Seen, sameSeen) {
		t.Fatalf("drained %s is %s", inShort(c), inShort(got))
	}
}

func TestPromise18OverLongRuns(t *testing.T) {
	most, drained, shared := 0, 0, [2]int{}
	for number := range uint32(24) {
		row := judgeRow(200+number, 200)
		if number%3 == 2 {
			row = deedRow(200+number, 200)
		}
		c := impl.CacheNew()
		for at := 0; at < len(row); at += 8 {
			c, _ = impl.CacheRun(c, row[at:min(at+8, len(row))])
			checkPromise18(t, c)
			most = max(most, len(impl.Waiting(c)))
			drained += len(c.Flights)
		}
		checkEnd(t, c)
		here, there := impl.Share(c)
		shared[0], shared[1] = shared[0]+here, shared[1]+there
	}
	if most < 6 || drained < 300 || shared[0] < 50 || shared[1] < 200 {
		t.Errorf("too little was done: at most %d wait, %d flights, answered %v", most, drained, shared)
	}
}

// Who goes on with what was drained is answered no second time.
func TestPromise18DrainedBetween(t *testing.T) {
	for number := range uint32(12) {
		c := impl.CacheNew()
		for at, d := range judgeRow(300+number, 200) {
			if c, _ = impl.CacheRun(c, []impl.Deed{d}); at%9 == 8 {
				checkPromise18(t, c)
				c = impl.Drain(c)
			}
		}
		checkPromise18(t, c)
	}
}

// Of all who asked, and whom no crash took, each one is answered when it is
// drained.
func TestPromise18EachIsAnswered(t *testing.T) {
	for number := range uint32(12) {
		c := impl.CacheNew()
		var asked []int
		for client, d := range judgeRow(400+number, 200) {
			if d.Kind == impl.CaCrash {
				continue
			}
			after, code := impl.CacheDo(c, d)
			if code != impl.CdDone {
				continue
			}
			if d.Kind == impl.CaAsk {
				asked = append(asked, client)
			}
			c = after
		}
		waiting := impl.Waiting(c)
		for _, client := range asked {
			if _, ok := impl.Served(c, client); ok == slices.Contains(waiting, client) {
				t.Fatalf("the client %d is answered: %v, of %v who wait", client, ok, waiting)
			}
		}
		c = impl.Drain(c)
		for _, client := range asked {
			if _, ok := impl.Served(c, client); !ok {
				t.Fatalf("the client %d is not answered in the end", client)
			}
		}
		if len(c.Sent) != len(asked) || len(asked) < 60 {
			t.Fatalf("%d asked, %d were answered", len(asked), len(c.Sent))
		}
	}
}

func TestPromise18OverAllShortRuns(t *testing.T) {
	q, other := asksIn("/a", "de"), asksIn("/a", "en")
	deeds := []impl.Deed{askDeed(0, q), askDeed(0, other), askDeed(0, posts("/a")), askDeed(0, purges("/a")), replyDeed(0, keepable(3)), replyDeed(1, same304()), failDeed(0), tickDeed(4), crashDeed()}
	eachShortRun(impl.CacheNew(), deeds, 4, func(c impl.Cache, left int) { checkPromise18(t, c) })
}

// Where there is no room for all, those who wait go on waiting, and nobody is
// lost.
func TestPromise18WhereRoomIsOut(t *testing.T) {
	left := 0
	for number := range uint32(20) {
		c := impl.CacheNew()
		c.Sent = manyAnswers(1475 + int(number))
		row := deedRow(500+number, 60)
		for at := 0; at < len(row); at += 3 {
			c, _ = impl.CacheRun(c, row[at:at+3])
			got := checkDrain(t, c)
			waiting := impl.Waiting(got)
			left += len(waiting)
			var since []int
			for _, a := range got.Sent[len(c.Sent):] {
				since = append(since, a.Client)
			}
			if !slices.Equal(slices.Concat(since, waiting), impl.Waiting(c)) || !impl.JudgeOnce(got) || !impl.CacheOk(got) {
				t.Fatalf("drained %s is %s", inShort(c.Flights), inShort(got.Flights))
			}
			if len(waiting) > 0 && len(got.Sent) < 1495 || !slices.EqualFunc(got.Sent[:len(c.Sent)], c.Sent, sameReply) {
				t.Fatalf("%v wait though %d are answered", waiting, len(got.Sent))
			}
		}
	}
	if left < 20 {
		t.Errorf("only %d go on waiting", left)
	}
}

func TestPromise18EndAnswersAnything(t *testing.T) {
	long := strings.Repeat("x", 20000)
	odd := impl.Obj{Path: long, Names: make([]string, 100), Values: make([]string, 100), Resp: impl.Resp{Status: math.MinInt, Fields: make([]impl.Field, 100), Body: long}, T: math.MaxInt}
	asked := impl.Req{Method: math.MinInt, Path: long, Fields: make([]impl.Field, 1000), Body: long}
	said := impl.Resp{Status: math.MaxInt, Fields: make([]impl.Field, 1000), Body: long}
	strange := busy()
	strange.Seen = []impl.Seen{{Q: asked, Resp: said, T: math.MinInt}}
	strange.Sent = []impl.Reply{{Client: math.MinInt, Q: asked, Resp: said, Kind: math.MinInt, T: math.MaxInt, Obj: odd, Bans: math.MinInt}}
	strange.Flights[0].Old, strange.Flights[0].Who = odd, []int{math.MinInt, math.MaxInt}
	checkDrained(t, strange, 3)
	checkServed(t, strange, math.MinInt, said)
	wide := busy()
	wide.Flights = slices.Repeat([]impl.Flight{{Q: asked, Who: make([]int, 1000), Old: odd}}, 300)
	much := impl.Cache{Shelf: impl.Shelf{Objs: make([]impl.Kept, 1000)}, Flights: make([]impl.Flight, 1000), Now: math.MinInt, Seen: make([]impl.Seen, 5000), Sent: make([]impl.Reply, 5000)}
	for _, c := range []impl.Cache{{}, strange, wide, much} {
		checkEnd(t, c)
	}
}
