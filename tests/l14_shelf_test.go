package tests

import (
	"cmp"
	"fmt"
	"math"
	"runtime"
	"slices"
	"strings"
	"testing"
	"unsafe"

	"loop.example/g00239/impl"
)

// speaks is an object of this path for who asks in this language, that came
// then.
func speaks(path, lang string, came int) impl.Obj {
	words := []string{"cache-control", "max-age=5", "vary", "lang", "etag", fmt.Sprintf("v%d", came)}
	return impl.Obj{Path: path, Names: []string{"lang"}, Values: []string{lang}, Resp: tells(words...), T: came}
}

// plain is an object of this path for whoever asks.
func plain(path string, came int) impl.Obj {
	o := lies(path, "etag", fmt.Sprintf("v%d", came))
	o.T = came
	return o
}

func asksIn(path, lang string) impl.Req {
	return impl.Req{Method: impl.MtGet, Path: path, Fields: fieldsOf("lang", lang)}
}

func knows(o impl.Obj, at, seq int) impl.Kept { return impl.Kept{Obj: o, At: at, Seq: seq} }

// shelves is a right shelf with these on it, if they are right; its disk has
// other texts than records.
func shelves(objs ...impl.Kept) impl.Shelf {
	return impl.Shelf{Disk: holds(manyWrites(3)...), Objs: objs, Next: 5, Seq: 60}
}

// stocked knows n objects of different paths, in all cells of objects from the
// last one on, with even numbers.
func stocked(n int) impl.Shelf {
	s := shelves()
	for i := range n {
		s.Objs = append(s.Objs, knows(speaks(fmt.Sprintf("/%d", i), "de", 10+i), 19-i, 2+2*i))
	}
	return s
}

// manyBans are right bans that hit nothing of what is told here.
func manyBans(n int) []impl.Ban {
	var all []impl.Ban
	for i := range n {
		all = append(all, []impl.Ban{banPath(fmt.Sprintf("/no/%d", i), i), banBelow(fmt.Sprintf("/none/%d/", i), i), banField("no", fmt.Sprintf("%d", i), i)}[i%3])
	}
	return all
}

func newShelfByHand() impl.Shelf {
	return impl.Shelf{Disk: impl.Disk{Cells: make([]string, 20)}, Next: 5, Seq: 1}
}

func sameKept(a, b impl.Kept) bool { return a.At == b.At && a.Seq == b.Seq && sameObj(a.Obj, b.Obj) }

func sameShelf(a, b impl.Shelf) bool {
	return sameDisk(a.Disk, b.Disk) && slices.EqualFunc(a.Objs, b.Objs, sameKept) && slices.Equal(a.Bans, b.Bans) && a.Next == b.Next && a.Seq == b.Seq
}

func shelfOkByHand(s impl.Shelf) bool {
	for i, one := range s.Objs {
		if !objOkByHand(one.Obj) || one.At < 5 || one.At > 19 || one.Seq < 1 || one.Seq >= s.Seq {
			return false
		}
		for _, other := range s.Objs[:i] {
			if other.At == one.At || other.Seq >= one.Seq {
				return false
			}
		}
	}
	wrong := slices.ContainsFunc(s.Bans, func(b impl.Ban) bool { return !banOkByHand(b) })
	return diskOkByHand(s.Disk) && !wrong && len(s.Bans) < 6 && 4 < s.Next && s.Next < 20 && 0 < s.Seq && s.Seq < 100001
}

func hitByHand(bans []impl.Ban, o impl.Obj) bool {
	return slices.ContainsFunc(bans, func(b impl.Ban) bool { return hitsByHand(b, o) })
}

// whoByHand is the same text of those who are in each other's place.
func whoByHand(o impl.Obj) string { return fmt.Sprintf("%q %q %q", o.Path, o.Names, o.Values) }

func behindByHand(at int) int { return 5 + (at-4)%15 }

func writtenByHand(d impl.Disk, at int, text string) impl.Disk {
	if len(d.Pending) == 16 {
		d = flushByHand(d)
	}
	d, _ = diskPutByHand(d, at, text)
	return d
}

func keepByHand(s impl.Shelf, o impl.Obj) (impl.Shelf, bool) {
	if !shelfOkByHand(s) {
		return impl.Shelf{}, false
	}
	if !objOkByHand(o) || hitByHand(s.Bans, o) || s.Seq == 100000 {
		return s, false
	}
	var stay []impl.Kept
	for _, one := range s.Objs {
		if one.At != s.Next && whoByHand(one.Obj) != whoByHand(o) {
			stay = append(stay, one)
		}
	}
	d := writtenByHand(s.Disk, s.Next, recTextByHand(s.Seq, objTextByHand(o)))
	return impl.Shelf{Disk: d, Objs: append(stay, knows(o, s.Next, s.Seq)), Bans: s.Bans, Next: behindByHand(s.Next), Seq: s.Seq + 1}, true
}

func banishByHand(s impl.Shelf, b impl.Ban) (impl.Shelf, bool) {
	if !shelfOkByHand(s) {
		return impl.Shelf{}, false
	}
	if !banOkByHand(b) || len(s.Bans) == 5 || s.Seq == 100000 {
		return s, false
	}
	bans := slices.Concat(s.Bans, []impl.Ban{b})
	var stay []impl.Kept
	for _, one := range s.Objs {
		if !hitByHand(bans, one.Obj) {
			stay = append(stay, one)
		}
	}
	d := flushByHand(writtenByHand(s.Disk, len(s.Bans), recTextByHand(s.Seq, banTextByHand(b))))
	return impl.Shelf{Disk: d, Objs: stay, Bans: bans, Next: s.Next, Seq: s.Seq + 1}, true
}

func findByHand(s impl.Shelf, q impl.Req) (found impl.Obj, ok bool) {
	if !shelfOkByHand(s) {
		return impl.Obj{}, false
	}
	for _, one := range s.Objs {
		if one.Obj.Path == q.Path && suitsByHand(one.Obj.Names, one.Obj.Values, q.Fields) && !hitByHand(s.Bans, one.Obj) {
			found, ok = one.Obj, true
		}
	}
	return found, ok
}

// readByHand tells the objects on a disk that have a number which counts, in
// the order of their numbers, and of one number by cell.
func readByHand(d impl.Disk) []impl.Kept {
	var all []impl.Kept
	for at := 5; at < 20; at++ {
		seq, body, whole := recByHand(diskGetByHand(d, at))
		o, ok := objByHand(body)
		if whole && ok && seq < 100000 {
			all = append(all, knows(o, at, seq))
		}
	}
	slices.SortFunc(all, func(a, b impl.Kept) int { return cmp.Or(a.Seq-b.Seq, a.At-b.At) })
	return all
}

func mountByHand(d impl.Disk) impl.Shelf {
	s := newShelfByHand()
	if !diskOkByHand(d) {
		return s
	}
	s.Disk = d
	for at := range 5 {
		seq, body, whole := recByHand(diskGetByHand(d, at))
		b, ok := banByHand(body)
		if !whole || !ok {
			break
		}
		s.Bans = append(s.Bans, b)
		if s.Seq <= seq && seq < 100000 {
			s.Seq = seq + 1
		}
	}
	var unhit []impl.Kept
	for _, one := range readByHand(d) {
		s.Seq = max(s.Seq, one.Seq+1)
		if !hitByHand(s.Bans, one.Obj) {
			unhit = append(unhit, one)
		}
	}
	for i, one := range unhit {
		replaced := func(later impl.Kept) bool {
			return later.Seq == one.Seq || whoByHand(later.Obj) == whoByHand(one.Obj)
		}
		if !slices.ContainsFunc(unhit[i+1:], replaced) {
			s.Objs, s.Next = append(s.Objs, one), behindByHand(one.At)
		}
	}
	return s
}

func checkShelfOk(t *testing.T, s impl.Shelf, want bool) {
	t.Helper()
	if got := impl.ShelfOk(s); got != want {
		t.Fatalf("ShelfOk(%#v) = %v", s, got)
	}
}

func checkKeep(t *testing.T, s impl.Shelf, o impl.Obj) (impl.Shelf, bool) {
	t.Helper()
	want, wantOk := keepByHand(s, o)
	got, ok := impl.Keep(s, o)
	if !sameShelf(got, want) || ok != wantOk {
		t.Fatalf("Keep(%#v, %#v) = %#v, %v, not %#v, %v", s, o, got, ok, want, wantOk)
	}
	checkShelfOk(t, got, shelfOkByHand(s))
	return got, ok
}

func checkBanish(t *testing.T, s impl.Shelf, b impl.Ban) (impl.Shelf, bool) {
	t.Helper()
	want, wantOk := banishByHand(s, b)
	got, ok := impl.Banish(s, b)
	if !sameShelf(got, want) || ok != wantOk {
		t.Fatalf("Banish(%#v, %#v) = %#v, %v, not %#v, %v", s, b, got, ok, want, wantOk)
	}
	checkShelfOk(t, got, shelfOkByHand(s))
	return got, ok
}

func checkFind(t *testing.T, s impl.Shelf, q impl.Req) {
	t.Helper()
	want, wantOk := findByHand(s, q)
	if got, ok := impl.Find(s, q); !sameObj(got, want) || ok != wantOk {
		t.Fatalf("Find(%#v, %#v) = %#v, %v, not %#v, %v", s, q, got, ok, want, wantOk)
	}
}

func checkMount(t *testing.T, d impl.Disk) impl.Shelf {
	t.Helper()
	got, want := impl.Mount(d), mountByHand(d)
	if !sameShelf(got, want) {
		t.Fatalf("Mount(%#v) = %#v, not %#v", d, got, want)
	}
	checkShelfOk(t, got, true)
	return got
}

// checkKnown tells which objects are known, by when they came, and what comes
// next, without any model.
func checkKnown(t *testing.T, s impl.Shelf, next, seq int, came ...int) {
	t.Helper()
	var times []int
	for _, one := range s.Objs {
		times = append(times, one.Obj.T)
	}
	if !slices.Equal(times, came) || s.Next != next || s.Seq != seq {
		t.Fatalf("those of %v are known, and %d and %d come next, not %v, %d and %d", times, s.Next, s.Seq, came, next, seq)
	}
}

// rightShelves are right in all kinds of ways, also such as none that was new
// once gets to.
func rightShelves() []impl.Shelf {
	all := []impl.Shelf{newShelfByHand(), shelves()}
	for n := range 16 {
		s := stocked(n)
		s.Bans, s.Next = manyBans(n%6), 5+n%15
		all = append(all, s)
	}
	for _, n := range []int{0, 1, 14, 15, 16} {
		s := stocked(4)
		s.Disk, s.Next = holds(manyWrites(n)...), 18+n%2
		all = append(all, s)
	}
	for _, seq := range []int{9, 10, impl.MaxSeq - 2, impl.MaxSeq - 1, impl.MaxSeq} {
		s := stocked(4)
		s.Seq, s.Bans = seq, manyBans(3)
		all = append(all, s)
	}
	for n := range 6 {
		s := stocked(5)
		s.Bans = manyBans(n)
		all = append(all, s)
	}
	several := shelves(knows(speaks("/a", "de", 1), 9, 1), knows(speaks("/a", "en", 2), 5, 2), knows(speaks("/a", "de", 3), 8, 5), knows(plain("/a", 4), 19, 6), knows(speaks("/a", "de", 5), 6, 7), knows(speaks("/b", "de", 6), 7, 59))
	banned := several
	banned.Bans = []impl.Ban{banField("etag", "v5", 5), banPath("/b", 5), banBelow("/a", 1)}
	last := several
	last.Next = 19
	return append(all, several, banned, last)
}

// wrongShelves are wrong in one way each, but for the first ones.
func wrongShelves() []impl.Shelf {
	all := []impl.Shelf{{}, {Next: 5, Seq: 1}, {Disk: holds()}, {Disk: holds(), Next: 5}, {Disk: holds(), Seq: 1}, {Objs: make([]impl.Kept, 3), Bans: make([]impl.Ban, 3), Next: -1, Seq: -1}}
	turn := func(how func(s *impl.Shelf)) {
		s := stocked(4)
		s.Bans = manyBans(4)
		how(&s)
		all = append(all, s)
	}
	for _, d := range []impl.Disk{{}, {Cells: cellsOf(19)}, {Cells: cellsOf(21)}, holds(manyWrites(17)...), holds(writesTo(-1)...), holds(writesTo(20)...)} {
		turn(func(s *impl.Shelf) { s.Disk = d })
	}
	for i, o := range wrongObjs() {
		turn(func(s *impl.Shelf) { s.Objs[i%4].Obj = o })
	}
	for i, at := range []int{-1, 0, 4, 20, math.MinInt, math.MaxInt} {
		turn(func(s *impl.Shelf) { s.Objs[i%4].At = at })
		turn(func(s *impl.Shelf) { s.Next = at })
	}
	turn(func(s *impl.Shelf) { s.Objs[0].At = s.Objs[3].At })
	turn(func(s *impl.Shelf) { s.Objs[0].Seq = 0 })
	turn(func(s *impl.Shelf) { s.Objs[0].Seq = s.Objs[1].Seq })
	turn(func(s *impl.Shelf) { s.Objs[1].Seq = 9 })
	turn(func(s *impl.Shelf) { s.Objs[3].Seq = s.Seq })
	for i, b := range wrongBans() {
		turn(func(s *impl.Shelf) { s.Bans[i%4] = b })
	}
	turn(func(s *impl.Shelf) { s.Bans = manyBans(6) })
	for _, seq := range []int{math.MinInt, -1, 0, 8, impl.MaxSeq + 1, math.MaxInt} {
		turn(func(s *impl.Shelf) { s.Seq = seq })
	}
	return all
}

func TestShelfLimits(t *testing.T) {
	if impl.MaxBans != 5 {
		t.Error("another limit is told", impl.MaxBans)
	}
}

func TestShelfOk(t *testing.T) {
	for _, s := range rightShelves() {
		checkShelfOk(t, s, true)
	}
	for _, s := range wrongShelves() {
		checkShelfOk(t, s, false)
	}
}

func TestShelfOkDisk(t *testing.T) {
	for _, was := range []impl.Shelf{stocked(0), stocked(3), stocked(15)} {
		for _, d := range rightDisks() {
			was.Disk = d
			checkShelfOk(t, was, true)
		}
		for _, d := range wrongDisks() {
			was.Disk = d
			checkShelfOk(t, was, false)
		}
	}
}

func TestShelfOkObjects(t *testing.T) {
	for n := 1; n <= 15; n++ {
		for i := range n {
			for _, o := range wrongObjs() {
				s := stocked(n)
				s.Objs[i].Obj = o
				checkShelfOk(t, s, false)
			}
			for _, o := range someObjs() {
				s := stocked(n)
				s.Objs[i].Obj = o
				checkShelfOk(t, s, true)
			}
		}
	}
	// Whether they lie on the disk, are alike, or are hit, is not asked for.
	s := stocked(15)
	for i := range s.Objs {
		s.Objs[i].Obj = speaks("/a", "de", 7)
	}
	s.Bans = []impl.Ban{banBelow("/", impl.MaxTime)}
	checkShelfOk(t, s, true)
}

func TestShelfOkCells(t *testing.T) {
	for _, at := range allPlaces() {
		for i := range 3 {
			s := shelves(knows(plain("/a", 1), 6, 1), knows(plain("/b", 2), 7, 2), knows(plain("/c", 3), 8, 3))
			s.Objs[i].At = at
			twice := at != 6+i && 6 <= at && at <= 8
			checkShelfOk(t, s, 5 <= at && at <= 19 && !twice)
		}
		checkShelfOk(t, shelves(knows(plain("/a", 1), at, 1)), 5 <= at && at <= 19)
		s := stocked(2)
		s.Next = at
		checkShelfOk(t, s, 5 <= at && at <= 19)
	}
}

func TestShelfOkTwoOfOneCell(t *testing.T) {
	for n := 2; n <= 15; n++ {
		checkShelfOk(t, stocked(n), true)
		for i := range n {
			for j := range n {
				s := stocked(n)
				s.Objs[i].At = s.Objs[j].At
				checkShelfOk(t, s, i == j)
			}
		}
	}
	// There are no more cells than 15, so one more has another's.
	s := stocked(15)
	for at := 5; at <= 19; at++ {
		checkShelfOk(t, impl.Shelf{Disk: s.Disk, Objs: slices.Concat(s.Objs, []impl.Kept{knows(plain("/x", 1), at, 50)}), Next: 5, Seq: 60}, false)
	}
}

func TestShelfOkNumbers(t *testing.T) {
	for _, seq := range append(append(recSeqs(), wrongSeqs()...), 1, 2, 3, 58, 59, 60, 61) {
		for _, top := range []int{1, 2, 3, 60, impl.MaxSeq - 1, impl.MaxSeq} {
			s := shelves(knows(plain("/a", 1), 5, seq))
			s.Seq = top
			checkShelfOk(t, s, 1 <= seq && seq < top)
			s = shelves()
			s.Seq = seq
			checkShelfOk(t, s, 1 <= seq && seq <= 100000)
		}
	}
	for _, numbers := range textLists([]string{"0", "1", "2", "3", "4"}, 4) {
		s, right := shelves(), true
		s.Seq = 4
		for i, number := range numbers {
			seq := int(number[0] - '0')
			right = right && 0 < seq && seq < 4 && (i == 0 || numbers[i-1] < number)
			s.Objs = append(s.Objs, knows(plain("/a", 1), 19-i, seq))
		}
		checkShelfOk(t, s, right)
	}
	for i := range 14 {
		s := stocked(15)
		s.Objs[i], s.Objs[i+1] = s.Objs[i+1], s.Objs[i]
		checkShelfOk(t, s, false)
		s = stocked(15)
		s.Objs[i].Seq = s.Objs[i+1].Seq
		checkShelfOk(t, s, false)
		s.Objs[i].Seq--
		checkShelfOk(t, s, true)
	}
}

func TestShelfOkBans(t *testing.T) {
	for n := range 20 {
		s := stocked(3)
		s.Bans = manyBans(n)
		checkShelfOk(t, s, n <= 5)
		s.Bans = slices.Repeat([]impl.Ban{banPath("/a", 7)}, n)
		checkShelfOk(t, s, n <= 5)
	}
	for n := 1; n <= 5; n++ {
		for i := range n {
			for _, b := range wrongBans() {
				s := stocked(3)
				s.Bans = manyBans(n)
				s.Bans[i] = b
				checkShelfOk(t, s, false)
			}
			for _, b := range someBans() {
				s := stocked(3)
				s.Bans = manyBans(n)
				s.Bans[i] = b
				checkShelfOk(t, s, true)
			}
		}
	}
}

func TestShelfNew(t *testing.T) {
	s := impl.ShelfNew()
	if !sameShelf(s, newShelfByHand()) || !sameDisk(s.Disk, impl.DiskNew()) {
		t.Fatalf("ShelfNew() = %#v", s)
	}
	checkShelfOk(t, s, true)
	checkFind(t, s, asks())
	checkMount(t, s.Disk)
	turnDisk(s.Disk)
	if !sameShelf(impl.ShelfNew(), newShelfByHand()) {
		t.Fatalf("a new shelf turned with another one: %#v", impl.ShelfNew())
	}
}

// keptObjs are objects of all kinds, right and wrong; some take the place of
// those that rightShelves know, or are hit there.
func keptObjs() []impl.Obj {
	all := append(someObjs(), wrongObjs()...)
	return append(all, speaks("/a", "de", 9), speaks("/a", "de", 5), speaks("/a", "en", 0), plain("/a", 4), plain("/a", 1), speaks("/b", "de", 5), speaks("/b", "de", 6), speaks("/0", "de", 3), speaks("/3", "de", 3), speaks("/3", "en", 3), plain("/3", 3), speaks("/no/0", "de", 0), speaks("/no/0", "de", 1))
}

func TestKeep(t *testing.T) {
	for _, s := range append(rightShelves(), wrongShelves()...) {
		for _, o := range keptObjs() {
			checkKeep(t, s, o)
		}
	}
}

func TestKeepOnANewShelf(t *testing.T) {
	o := speaks("/a", "de", 7)
	s, ok := impl.Keep(impl.ShelfNew(), o)
	want := newShelfByHand()
	want.Disk.Pending = []impl.Write{{At: 5, Text: recTextByHand(1, objTextByHand(o))}}
	want.Objs, want.Next, want.Seq = []impl.Kept{{Obj: o, At: 5, Seq: 1}}, 6, 2
	if !ok || !sameShelf(s, want) {
		t.Fatalf("the first one kept makes %#v, %v", s, ok)
	}
}

// Who is known in the cell Next is dropped, and who is in the place of the new
// one, and nobody else.
func TestKeepWhoIsDropped(t *testing.T) {
	two := speaks("/a", "de", 5)
	two.Names, two.Values, two.Resp.Fields = []string{"lang", "kind"}, []string{"de", "x"}, fieldsOf("vary", "lang,kind")
	turned := speaks("/a", "de", 6)
	turned.Names, turned.Resp.Fields = []string{"kind"}, fieldsOf("vary", "kind")
	great := speaks("/a", "de", 8)
	great.Resp = impl.Resp{Status: 404, Fields: fieldsOf("vary", "LANG,"), Body: "other"}
	s := shelves(knows(speaks("/a", "de", 1), 19, 1), knows(speaks("/a", "en", 2), 6, 3), knows(speaks("/b", "de", 3), 7, 4), knows(plain("/a", 4), 8, 5), knows(two, 9, 6), knows(turned, 10, 7), knows(speaks("/a", "de", 7), 11, 8), knows(great, 12, 58))
	checkShelfOk(t, s, true)
	for _, c := range []struct {
		next int
		o    impl.Obj
		came []int
	}{
		{5, speaks("/a", "de", 9), []int{2, 3, 4, 5, 6, 9}}, {6, speaks("/a", "de", 9), []int{3, 4, 5, 6, 9}}, {11, speaks("/a", "de", 9), []int{2, 3, 4, 5, 6, 9}}, {19, speaks("/a", "de", 9), []int{2, 3, 4, 5, 6, 9}},
		{5, speaks("/a", "en", 9), []int{1, 3, 4, 5, 6, 7, 8, 9}}, {7, speaks("/a", "en", 9), []int{1, 4, 5, 6, 7, 8, 9}}, {5, speaks("/b", "de", 9), []int{1, 2, 4, 5, 6, 7, 8, 9}}, {5, plain("/a", 9), []int{1, 2, 3, 5, 6, 7, 8, 9}},
		{5, speaks("/a", "De", 9), []int{1, 2, 3, 4, 5, 6, 7, 8, 9}}, {5, speaks("/a/", "de", 9), []int{1, 2, 3, 4, 5, 6, 7, 8, 9}}, {5, plain("/b", 9), []int{1, 2, 3, 4, 5, 6, 7, 8, 9}}, {12, speaks("/c", "de", 9), []int{1, 2, 3, 4, 5, 6, 7, 9}}, {19, speaks("/c", "de", 9), []int{2, 3, 4, 5, 6, 7, 8, 9}},
		{5, great, []int{2, 3, 4, 5, 6, 8}}, {5, two, []int{1, 2, 3, 4, 6, 7, 8, 5}}, {5, turned, []int{1, 2, 3, 4, 5, 7, 8, 6}},
	} {
		s.Next = c.next
		after, ok := checkKeep(t, s, c.o)
		next := c.next + 1
		if c.next == 19 {
			next = 5
		}
		checkKnown(t, after, next, 61, c.came...)
		if last := after.Objs[len(after.Objs)-1]; !ok || !sameKept(last, knows(c.o, c.next, 60)) {
			t.Fatalf("%#v is known as %#v, %v", c.o, last, ok)
		}
	}
}

func TestKeepUsesCellsInTurn(t *testing.T) {
	s := impl.ShelfNew()
	for i := range 100 {
		o := plain(fmt.Sprintf("/%d", i), i)
		s, _ = checkKeep(t, s, o)
		var came []int
		for j := max(0, i-14); j <= i; j++ {
			came = append(came, j)
		}
		checkKnown(t, s, 5+(i+1)%15, i+2, came...)
		if last := s.Objs[len(s.Objs)-1]; last.At != 5+i%15 || last.Seq != i+1 {
			t.Fatalf("the %d. one lies in %d with the number %d", i, last.At, last.Seq)
		}
		if got := impl.DiskGet(s.Disk, 5+i%15); got != recTextByHand(i+1, objTextByHand(o)) {
			t.Fatalf("the %d. one is written as %q", i, got)
		}
	}
}

// Who is kept again goes on to the next cell, and what it had is left alone.
func TestKeepAgain(t *testing.T) {
	s := impl.ShelfNew()
	for i := range 40 {
		s, _ = checkKeep(t, s, speaks("/a", "de", i))
		checkKnown(t, s, 5+(i+1)%15, i+2, i)
		if before := impl.DiskGet(s.Disk, 5+(i+14)%15); i > 0 && before != recTextByHand(i, objTextByHand(speaks("/a", "de", i-1))) {
			t.Fatalf("ahead of the %d. one lies %q", i, before)
		}
	}
}

func TestKeepPending(t *testing.T) {
	o := speaks("/a", "de", 7)
	text := recTextByHand(60, objTextByHand(o))
	for n := range 17 {
		s := stocked(3)
		s.Disk, s.Next = holds(manyWrites(n)...), 7
		after, ok := checkKeep(t, s, o)
		want := impl.Disk{Cells: s.Disk.Cells, Pending: append(manyWrites(n), impl.Write{At: 7, Text: text})}
		if n == 16 {
			want = impl.Disk{Cells: flushByHand(s.Disk).Cells, Pending: []impl.Write{{At: 7, Text: text}}}
		}
		if !ok || !sameDisk(after.Disk, want) {
			t.Fatalf("behind %d writes it makes %#v, %v", n, after.Disk, ok)
		}
	}
}

func TestKeepNumbers(t *testing.T) {
	for _, seq := range []int{1, 2, 9, 10, 4711, impl.MaxSeq - 2, impl.MaxSeq - 1, impl.MaxSeq} {
		s := shelves()
		s.Seq, s.Next = seq, 19
		after, ok := checkKeep(t, s, plain("/a", 7))
		if ok != (seq < 100000) || ok && (after.Seq != seq+1 || after.Next != 5 || after.Objs[0].Seq != seq) || !ok && !sameShelf(after, s) {
			t.Fatalf("with %d it makes %#v, %v", seq, after, ok)
		}
	}
	// Behind the last number nothing is kept, however often it is tried.
	s := shelves()
	s.Seq = impl.MaxSeq - 3
	for i := range 9 {
		after, ok := checkKeep(t, s, plain(fmt.Sprintf("/%d", i), 7))
		if ok != (i < 3) || len(after.Objs) != min(i+1, 3) {
			t.Fatalf("the %d. one makes %#v, %v", i, after, ok)
		}
		s = after
	}
}

// Nothing is dropped for one that is refused.
func TestKeepRefuses(t *testing.T) {
	s := shelves(knows(speaks("/a", "de", 1), 5, 1), knows(speaks("/a", "de", 9), 6, 2), knows(speaks("/b", "de", 3), 7, 3))
	s.Bans, s.Disk = []impl.Ban{banPath("/c", 7), banField("etag", "v5", 5), banBelow("/a", 4)}, holds(manyWrites(16)...)
	for _, o := range append(wrongObjs(), speaks("/c", "de", 7), plain("/c", 0), speaks("/a", "de", 4), speaks("/a", "en", 0), speaks("/a", "de", 5), speaks("/b", "de", 5), plain("/x", 5), plain("/a/b", 3)) {
		if after, ok := impl.Keep(s, o); ok || !sameShelf(after, s) {
			t.Fatalf("Keep(%#v, %#v) = %#v, %v", s, o, after, ok)
		}
	}
	for _, o := range []impl.Obj{speaks("/c", "de", 8), speaks("/a", "de", 6), speaks("/b", "de", 4), speaks("/b", "de", 0)} {
		if after, ok := checkKeep(t, s, o); !ok || after.Seq != 61 {
			t.Fatalf("Keep(%#v, %#v) = %#v, %v", s, o, after, ok)
		}
	}
	for _, s := range wrongShelves() {
		for _, o := range []impl.Obj{speaks("/a", "de", 7), {}} {
			if after, ok := impl.Keep(s, o); ok || !sameShelf(after, impl.Shelf{}) {
				t.Fatalf("Keep(%#v, %#v) = %#v, %v", s, o, after, ok)
			}
		}
	}
}

// longestObj has the longest text that an object may have.
func longestObj() impl.Obj {
	o := keeps("a,b,c,d", slices.Repeat([]string{strings.Repeat("x", impl.MaxText)}, 4)...)
	o.Path, o.T, o.Resp.Body = "/"+strings.Repeat("a", impl.MaxText-1), impl.MaxTime, strings.Repeat("b", impl.MaxBody)
	o.Resp.Fields = fieldsOf("vary", "a,b"+strings.Repeat(",", impl.MaxText-6)+"c,d")
	for i := range impl.MaxFields - 1 {
		o.Resp.Fields = append(o.Resp.Fields, impl.Field{Name: strings.Repeat("z", 19) + fmt.Sprint(i), Value: strings.Repeat("v", impl.MaxText)})
	}
	return o
}

// No object has a text that is too long for a record, so that this refusal is
// not to be seen; the longest one is kept, and read again.
func TestKeepTheLongest(t *testing.T) {
	o := longestObj()
	checkObjOk(t, o, true)
	if n := len(impl.ObjText(o)); n > impl.MaxRec || n < 1000 {
		t.Fatalf("the longest object has %d bytes", n)
	}
	s := stocked(3)
	s.Seq = impl.MaxSeq - 1
	after, ok := checkKeep(t, s, o)
	if m := impl.Mount(impl.Flush(after.Disk)); !ok || len(m.Objs) != 1 || !sameKept(m.Objs[0], knows(o, 5, impl.MaxSeq-1)) {
		t.Fatalf("the longest object is mounted as %#v", m)
	}
}

func TestKeepTexts(t *testing.T) {
	for i, o := range rightObjs() {
		s := stocked(i % 16)
		s.Disk = holds(manyWrites(i % 17)...)
		after, ok := checkKeep(t, s, o)
		if m := impl.Mount(after.Disk); !ok || len(m.Objs) != 1 || !sameKept(m.Objs[0], knows(o, 5, 60)) {
			t.Fatalf("%#v is mounted as %#v", o, m)
		}
	}
	for _, text := range oddTexts() {
		o := plain("/"+text, 7)
		if _, ok := impl.Keep(impl.ShelfNew(), o); ok != objOkByHand(o) {
			t.Fatalf("%#v is kept: %v", o, ok)
		}
	}
}

// banishedBans are bans of all kinds, right and wrong; some hit what
// rightShelves know.
func banishedBans() []impl.Ban {
	all := append(someBans(), wrongBans()...)
	return append(all, banPath("/a", 2), banPath("/a", impl.MaxTime), banBelow("/", impl.MaxTime), banBelow("/", 12), banBelow("/", 9), banField("etag", "v3", 2), banField("etag", "v3", 3), banField("etag", "v3", 4), banField("vary", "lang", 13), banField("lang", "de", 99), banPath("/0", 10), banPath("/3", 12), banPath("/3", 13))
}

func TestBanish(t *testing.T) {
	for _, s := range append(rightShelves(), wrongShelves()...) {
		for _, b := range banishedBans() {
			checkBanish(t, s, b)
		}
	}
}

func TestBanishOnANewShelf(t *testing.T) {
	s := impl.ShelfNew()
	want := newShelfByHand()
	for i, b := range manyBans(5) {
		after, ok := impl.Banish(s, b)
		want.Disk.Cells[i] = recTextByHand(i+1, banTextByHand(b))
		want.Bans, want.Seq = append(want.Bans, b), i+2
		if !ok || !sameShelf(after, want) {
			t.Fatalf("behind the %d. ban it is %#v, %v", i, after, ok)
		}
		s = after
	}
	for _, b := range append(manyBans(7), wrongBans()...) {
		if after, ok := impl.Banish(s, b); ok || !sameShelf(after, want) {
			t.Fatalf("a sixth ban makes %#v, %v", after, ok)
		}
	}
}

func TestBanishCells(t *testing.T) {
	for n := range 6 {
		for _, next := range []int{5, 12, 19} {
			s := stocked(3)
			s.Bans, s.Next = manyBans(n), next
			after, ok := checkBanish(t, s, banField("etag", "v7", 7))
			if ok != (n < 5) || after.Next != next || len(after.Bans) != min(n+1, 5) {
				t.Fatalf("behind %d bans it makes %#v, %v", n, after, ok)
			}
			if ok && after.Disk.Cells[n] != recTextByHand(60, "ban field 7 etag\nv7") {
				t.Fatalf("the ban behind %d others is written as %q", n, after.Disk.Cells[n])
			}
		}
	}
}

// All that was written ahead of the ban lies there with it.
func TestBanishFlushes(t *testing.T) {
	for n := range 17 {
		for _, bans := range []int{0, 1, 4} {
			s := stocked(3)
			s.Disk, s.Bans = holds(manyWrites(n)...), manyBans(bans)
			after, ok := checkBanish(t, s, banPath("/x", 7))
			want := flushByHand(s.Disk)
			want.Cells[bans] = recTextByHand(60, "ban path 7 /x")
			if !ok || !sameDisk(after.Disk, want) || len(after.Disk.Pending) != 0 {
				t.Fatalf("behind %d writes it makes %#v, %v", n, after.Disk, ok)
			}
			for _, keep := range someKeeps() {
				checkCrash(t, after.Disk, keep, want)
			}
		}
	}
}

func TestBanishWhoIsKnownNoMore(t *testing.T) {
	s := shelves(knows(speaks("/a", "de", 1), 19, 1), knows(speaks("/a", "en", 2), 6, 3), knows(speaks("/b", "de", 3), 7, 4), knows(plain("/a", 4), 8, 5), knows(plain("/a/b", 5), 9, 6), knows(speaks("/a", "de", 6), 10, 59))
	for _, c := range []struct {
		b    impl.Ban
		came []int
	}{
		{banPath("/a", 0), []int{1, 2, 3, 4, 5, 6}}, {banPath("/a", 1), []int{2, 3, 4, 5, 6}}, {banPath("/a", 3), []int{3, 4, 5, 6}}, {banPath("/a", 4), []int{3, 5, 6}}, {banPath("/a", 5), []int{3, 5, 6}}, {banPath("/a", 6), []int{3, 5}}, {banPath("/a", impl.MaxTime), []int{3, 5}},
		{banBelow("/a", 4), []int{3, 5, 6}}, {banBelow("/a", 5), []int{3, 6}}, {banBelow("/a/", 9), []int{1, 2, 3, 4, 6}}, {banBelow("/", 6), nil}, {banBelow("/", 5), []int{6}}, {banBelow("/x", 9), []int{1, 2, 3, 4, 5, 6}},
		{banField("etag", "v3", 2), []int{1, 2, 3, 4, 5, 6}}, {banField("etag", "v3", 3), []int{1, 2, 4, 5, 6}}, {banField("vary", "lang", 9), []int{4, 5}}, {banField("lang", "de", 9), []int{1, 2, 3, 4, 5, 6}}, {banField("etag", "v9", 9), []int{1, 2, 3, 4, 5, 6}},
	} {
		after, ok := checkBanish(t, s, c.b)
		checkKnown(t, after, 5, 61, c.came...)
		if !ok || !slices.Equal(after.Bans, []impl.Ban{c.b}) {
			t.Fatalf("Banish(%#v, %#v) = %#v, %v", s, c.b, after, ok)
		}
	}
	// Those that a ban hits which was there already are known no more, either.
	s.Bans = []impl.Ban{banField("etag", "v2", 2), banPath("/a/b", 9)}
	after, _ := checkBanish(t, s, banPath("/b", 9))
	checkKnown(t, after, 5, 61, 1, 4, 6)
}

func TestBanishNumbers(t *testing.T) {
	for _, seq := range []int{1, 2, 9, 10, 4711, impl.MaxSeq - 2, impl.MaxSeq - 1, impl.MaxSeq} {
		s := shelves()
		s.Seq, s.Disk = seq, holds(manyWrites(16)...)
		after, ok := checkBanish(t, s, banPath("/a", 7))
		if ok != (seq < 100000) || ok && (after.Seq != seq+1 || after.Disk.Cells[0] != recTextByHand(seq, "ban path 7 /a")) || !ok && !sameShelf(after, s) {
			t.Fatalf("with %d it makes %#v, %v", seq, after, ok)
		}
	}
}

// Nothing is flushed, and nobody dropped, for one that is refused.
func TestBanishRefuses(t *testing.T) {
	right := stocked(15)
	right.Disk, right.Bans = holds(manyWrites(16)...), manyBans(4)
	full, late := right, right
	full.Bans, late.Seq = manyBans(5), impl.MaxSeq
	for _, b := range wrongBans() {
		for _, s := range []impl.Shelf{right, full, late} {
			if after, ok := impl.Banish(s, b); ok || !sameShelf(after, s) {
				t.Fatalf("Banish(%#v, %#v) = %#v, %v", s, b, after, ok)
			}
		}
	}
	for _, b := range someBans() {
		for _, s := range []impl.Shelf{full, late} {
			if after, ok := impl.Banish(s, b); ok || !sameShelf(after, s) {
				t.Fatalf("Banish(%#v, %#v) = %#v, %v", s, b, after, ok)
			}
		}
		for _, s := range wrongShelves() {
			if after, ok := impl.Banish(s, b); ok || !sameShelf(after, impl.Shelf{}) {
				t.Fatalf("Banish(%#v, %#v) = %#v, %v", s, b, after, ok)
			}
		}
	}
	if after, ok := impl.Banish(right, banBelow("/", impl.MaxTime)); !ok || len(after.Objs) != 0 || len(after.Bans) != 5 {
		t.Fatalf("a fifth ban makes %#v, %v", after, ok)
	}
}

func TestBanishTexts(t *testing.T) {
	for i, b := range rightBans() {
		s := shelves()
		s.Bans = manyBans(i % 5)
		if after, ok := impl.Banish(s, b); !ok || after.Disk.Cells[i%5] != recTextByHand(60, banTextByHand(b)) {
			t.Fatalf("%#v makes %#v, %v", b, after, ok)
		}
	}
	for _, text := range oddTexts() {
		for _, b := range []impl.Ban{banPath("/"+text, 7), banField("a", text, 7)} {
			if _, ok := impl.Banish(impl.ShelfNew(), b); ok != banOkByHand(b) {
				t.Fatalf("%#v is a ban: %v", b, ok)
			}
		}
	}
}

func foundReqs() []impl.Req {
	var all []impl.Req
	for _, path := range []string{"/a", "/b", "/0", "/3", "/14", "/a/", "/", "a", "", "/A", "/a\xff"} {
		for _, list := range [][]impl.Field{nil, fieldsOf("lang", "de"), fieldsOf("lang", "en"), fieldsOf("kind", "x", "lang", "de"), fieldsOf("lang", "-"), fieldsOf("lang", ""), fieldsOf("Lang", "de"), fieldsOf("lang", "de", "lang", "en"), fieldsOf("lang", "\xff")} {
			all = append(all, impl.Req{Method: impl.MtGet, Path: path, Fields: list})
		}
	}
	return append(all, impl.Req{}, impl.Req{Path: "/a"}, impl.Req{Method: impl.MtPost, Path: "/a", Fields: fieldsOf("lang", "de"), Body: "x"}, impl.Req{Method: -1, Path: "/0", Fields: fieldsOf("lang", "de"), Body: strings.Repeat("x", 1000)})
}

func TestFind(t *testing.T) {
	for _, s := range append(rightShelves(), wrongShelves()...) {
		for _, q := range foundReqs() {
			checkFind(t, s, q)
		}
	}
}

// checkFound tells by when it came what is found, -1 where there is none.
func checkFound(t *testing.T, s impl.Shelf, q impl.Req, came int) {
	t.Helper()
	o, ok := impl.Find(s, q)
	if came < 0 && (ok || !sameObj(o, impl.Obj{})) || came >= 0 && (!ok || o.T != came) {
		t.Fatalf("Find(%#v, %#v) = %#v, %v, not that of %d", s, q, o, ok, came)
	}
	checkFind(t, s, q)
}

func TestFindTheLast(t *testing.T) {
	s := shelves(knows(speaks("/a", "de", 9), 19, 1), knows(speaks("/a", "en", 2), 6, 3), knows(speaks("/a", "de", 3), 7, 4), knows(speaks("/b", "de", 8), 8, 5), knows(speaks("/a", "de", 1), 5, 59))
	checkFound(t, s, asksIn("/a", "de"), 1)
	checkFound(t, s, asksIn("/a", "en"), 2)
	checkFound(t, s, asksIn("/b", "de"), 8)
	checkFound(t, s, asksIn("/b", "en"), -1)
	checkFound(t, s, asksIn("/c", "de"), -1)
	checkFound(t, s, asksIn("/a", "-"), -1)
	checkFound(t, s, asks(), -1)
	s.Objs = append(s.Objs[:4:4], knows(plain("/a", 6), 5, 59))
	checkFound(t, s, asksIn("/a", "de"), 6)
	checkFound(t, s, asksIn("/a", "fr"), 6)
	checkFound(t, s, asks(), 6)
	checkFound(t, s, asksIn("/b", "de"), 8)
	// One for whom nothing is said suits who says nothing.
	s.Objs = append(s.Objs[:4:4], knows(speaks("/a", "-", 7), 5, 59))
	checkFound(t, s, asks(), 7)
	checkFound(t, s, asksIn("/a", "de"), 3)
	for i := range 15 {
		checkFound(t, stocked(15), asksIn(fmt.Sprintf("/%d", i), "de"), 10+i)
		checkFound(t, stocked(i), asksIn(fmt.Sprintf("/%d", i), "de"), -1)
	}
}

func TestFindNothingThatIsHit(t *testing.T) {
	s := shelves(knows(speaks("/a", "de", 1), 5, 1), knows(speaks("/a", "de", 5), 6, 2), knows(speaks("/a", "de", 3), 7, 3))
	for _, c := range []struct {
		bans []impl.Ban
		came int
	}{
		{nil, 3}, {[]impl.Ban{banField("etag", "v3", 2)}, 3}, {[]impl.Ban{banField("etag", "v3", 3)}, 5}, {[]impl.Ban{banPath("/a", 2)}, 3}, {[]impl.Ban{banPath("/a", 3)}, 5}, {[]impl.Ban{banPath("/a", 4)}, 5}, {[]impl.Ban{banPath("/a", 5)}, -1}, {[]impl.Ban{banBelow("/", 9)}, -1},
		{[]impl.Ban{banField("etag", "v3", 9), banField("etag", "v5", 9)}, 1}, {[]impl.Ban{banField("etag", "v5", 9)}, 3}, {[]impl.Ban{banPath("/b", 9), banPath("/a", 0), banPath("/c", 9), banPath("/d", 9), banPath("/a", 9)}, -1},
	} {
		s.Bans = c.bans
		checkFound(t, s, asksIn("/a", "de"), c.came)
	}
}

func TestFindOnWrongShelves(t *testing.T) {
	for _, s := range wrongShelves() {
		for _, one := range s.Objs {
			checkFound(t, s, asksIn(one.Obj.Path, "de"), -1)
		}
		checkFound(t, s, asks(), -1)
	}
}

// lays is a disk with these texts in its cells, and nothing pending.
func lays(texts map[int]string) impl.Disk {
	d := impl.Disk{Cells: make([]string, 20)}
	for at, text := range texts {
		d.Cells[at] = text
	}
	return d
}

func recOf(seq int, o impl.Obj) string { return recTextByHand(seq, objTextByHand(o)) }

func recOfBan(seq int, b impl.Ban) string { return recTextByHand(seq, banTextByHand(b)) }

func TestMountOfDisksWithoutRecords(t *testing.T) {
	for _, d := range rightDisks() {
		s := checkMount(t, d)
		checkKnown(t, s, 5, 1)
		if !sameDisk(s.Disk, d) || len(s.Bans) != 0 {
			t.Fatalf("Mount(%#v) = %#v", d, s)
		}
	}
	if s := impl.Mount(impl.DiskNew()); !sameShelf(s, impl.ShelfNew()) {
		t.Fatalf("a new disk is mounted as %#v", s)
	}
	for _, d := range wrongDisks() {
		if s := impl.Mount(d); !sameShelf(s, newShelfByHand()) {
			t.Fatalf("Mount(%#v) = %#v", d, s)
		}
	}
	// Right records do not make a disk of what is none.
	d := lays(map[int]string{0: recOfBan(1, banPath("/a", 7)), 5: recOf(2, plain("/b", 7))})
	checkKnown(t, checkMount(t, d), 6, 3, 7)
	for _, wrong := range []impl.Disk{{Cells: d.Cells[:19]}, {Cells: append(slices.Clone(d.Cells), "")}, {Cells: d.Cells, Pending: writesTo(20)}, {Cells: d.Cells, Pending: manyWrites(17)}} {
		if s := impl.Mount(wrong); !sameShelf(s, newShelfByHand()) {
			t.Fatalf("Mount(%#v) = %#v", wrong, s)
		}
	}
}

// noRecords are texts that tell neither a ban nor an object.
func noRecords() []string {
	b, o := banTextByHand(banPath("/a", 7)), objTextByHand(plain("/a", 7))
	return []string{
		"", "x", "\xff\x00", b, o, recTextByHand(9, ""), recTextByHand(9, "x"), recTextByHand(9, b+"\n"), recTextByHand(9, o+" "), recTextByHand(9, " "+b), recTextByHand(9, recTextByHand(9, b)), recTextByHand(9, recTextByHand(9, o)), recTextByHand(0, b), recTextByHand(0, o), recTextByHand(100001, b), recTextByHand(100001, o),
		recTextByHand(9, b)[1:], recTextByHand(9, o)[1:], recTextByHand(9, b) + "x", recTextByHand(9, o) + "x", " " + recTextByHand(9, b), strings.Replace(recTextByHand(9, b), "/a", "/b", 1), strings.Replace(recTextByHand(9, o), "/a", "/b", 1), recTextByHand(9, strings.Repeat("x", 2000)), recTextByHand(9, strings.Repeat("x", 2001)), recTextByHand(9, "ban path 7 a"), recTextByHand(9, "obj /a 7 1\n"), recTextByHand(9, strings.Replace(o, "obj /a", "obj a", 1)),
	}
}

func TestMountOfWhatIsNoRecord(t *testing.T) {
	for _, text := range noRecords() {
		for at := range 20 {
			checkKnown(t, checkMount(t, lays(map[int]string{at: text})), 5, 1)
			d := lays(map[int]string{2: recOfBan(5, banPath("/x", 7)), 1: recOfBan(4, banPath("/y", 7)), 0: recOfBan(3, banPath("/z", 7)), 8: recOf(1, plain("/b", 7)), 9: recOf(2, plain("/c", 8))})
			d.Cells[at] = text
			s := checkMount(t, d)
			if want := min(at, 3); len(s.Bans) != want || s.Seq != 3+want {
				t.Fatalf("with %q in %d it is mounted as %#v", text, at, s)
			}
		}
	}
	for _, text := range oddTexts() {
		if s := impl.Mount(lays(map[int]string{0: text, 4: text, 5: text, 19: text})); !slices.Equal(s.Disk.Cells[:1], []string{text}) || len(s.Objs)+len(s.Bans) != 0 || s.Next != 5 || s.Seq != 1 {
			t.Fatalf("of %q it is mounted as %#v", text, s)
		}
	}
}

// A record in a cell of the other kind tells nothing, and its number does not
// count.
func TestMountOfRecordsInOtherCells(t *testing.T) {
	b, o := recOfBan(9, banPath("/x", 7)), recOf(9, plain("/a", 7))
	for at := range 20 {
		s := checkMount(t, lays(map[int]string{at: b}))
		if at == 0 {
			checkKnown(t, s, 5, 10)
		} else {
			checkKnown(t, s, 5, 1)
		}
		s = checkMount(t, lays(map[int]string{at: o}))
		if at >= 5 {
			checkKnown(t, s, behindByHand(at), 10, 7)
		} else {
			checkKnown(t, s, 5, 1)
		}
		if want := at == 0; (len(impl.Mount(lays(map[int]string{at: b})).Bans) == 1) != want {
			t.Fatalf("a ban in %d is mounted as %#v", at, s)
		}
	}
}

func TestMountBansUpToTheFirstThatIsNone(t *testing.T) {
	bans := []impl.Ban{banPath("/a", 7), banBelow("/b", 8), banField("etag", "v9", 9), banPath("/a", 7), banBelow("/", 0)}
	for n := range 6 {
		for _, text := range append(noRecords(), recOf(50, plain("/a", 7))) {
			d := lays(map[int]string{19: recOf(40, plain("/x", 10))})
			for i, b := range bans {
				d.Cells[i] = recOfBan(45-5*i, b)
			}
			if n < 5 {
				d.Cells[n] = text
			}
			s := checkMount(t, d)
			if !slices.Equal(s.Bans, bans[:n]) {
				t.Fatalf("%#v is mounted with the bans %#v", d, s.Bans)
			}
			seq := 41
			if n > 0 {
				seq = 46
			}
			checkKnown(t, s, 5, seq, 10)
		}
	}
	// What stands behind the first that is none hits nobody, and has no number.
	d := lays(map[int]string{0: recOfBan(3, banPath("/x", 9)), 2: recOfBan(99, banPath("/a", 9)), 7: recOf(4, plain("/a", 9))})
	checkKnown(t, checkMount(t, d), 8, 5, 9)
	d.Cells[1] = recOfBan(1, banPath("/x", 9))
	checkKnown(t, checkMount(t, d), 5, 100)
}

func TestMountNumbers(t *testing.T) {
	for _, seq := range recSeqs() {
		object := checkMount(t, lays(map[int]string{7: recOf(seq, plain("/a", 9))}))
		ban := checkMount(t, lays(map[int]string{0: recOfBan(seq, banPath("/x", 9))}))
		hit := checkMount(t, lays(map[int]string{0: recOfBan(1, banPath("/a", 9)), 7: recOf(seq, plain("/a", 9))}))
		if len(ban.Bans) != 1 || len(hit.Bans) != 1 {
			t.Fatalf("with %d the bans are %#v, %#v", seq, ban.Bans, hit.Bans)
		}
		if seq == 100000 {
			checkKnown(t, object, 5, 1)
			checkKnown(t, ban, 5, 1)
			checkKnown(t, hit, 5, 2)
			continue
		}
		checkKnown(t, object, 8, seq+1, 9)
		checkKnown(t, ban, 5, seq+1)
		checkKnown(t, hit, 5, seq+1)
	}
}

// One of the greatest number is a ban, but no object: it takes nobody's place.
func TestMountTheGreatestNumbers(t *testing.T) {
	last := impl.MaxSeq - 1
	d := lays(map[int]string{0: recOfBan(impl.MaxSeq, banField("etag", "v1", 1)), 1: recOfBan(3, banPath("/b", 9)), 5: recOf(4, plain("/a", 1)), 6: recOf(5, plain("/a", 2)), 7: recOf(impl.MaxSeq, plain("/a", 3)), 8: recOf(impl.MaxSeq, plain("/c", 4)), 9: recOf(2, plain("/b", 5))})
	s := checkMount(t, d)
	checkKnown(t, s, 7, 6, 2)
	if len(s.Bans) != 2 {
		t.Fatalf("the bans are %#v", s.Bans)
	}
	d.Cells[10] = recOf(last, plain("/c", 6))
	checkKnown(t, checkMount(t, d), 11, impl.MaxSeq, 2, 6)
	d.Cells[10] = recOf(last-1, plain("/c", 6))
	checkKnown(t, checkMount(t, d), 11, last, 2, 6)
	d.Cells[1] = recOfBan(last, banPath("/b", 9))
	checkKnown(t, checkMount(t, d), 11, impl.MaxSeq, 2, 6)
	// Behind the last number nothing can be kept or banned.
	s = checkMount(t, d)
	if _, ok := checkKeep(t, s, plain("/x", 9)); ok {
		t.Fatal("it is kept behind the last number")
	}
	if _, ok := checkBanish(t, s, banPath("/x", 9)); ok {
		t.Fatal("it is banned behind the last number")
	}
}

func TestMountOneNumberTwice(t *testing.T) {
	// Of one number the one in the later cell is known.
	for first := 5; first < 20; first++ {
		for second := first + 1; second < 20; second++ {
			d := lays(map[int]string{first: recOf(7, plain("/a", 1)), second: recOf(7, plain("/b", 2))})
			s := checkMount(t, d)
			checkKnown(t, s, behindByHand(second), 8, 2)
			d.Cells[first], d.Cells[second] = d.Cells[second], d.Cells[first]
			checkKnown(t, checkMount(t, d), behindByHand(second), 8, 1)
		}
	}
	// The one that is not known for its number still takes the place of another.
	d := lays(map[int]string{5: recOf(6, plain("/a", 1)), 6: recOf(7, plain("/a", 2)), 7: recOf(7, plain("/b", 3))})
	checkKnown(t, checkMount(t, d), 8, 8, 3)
	d = lays(map[int]string{19: recOf(6, plain("/a", 1)), 6: recOf(7, plain("/a", 2)), 7: recOf(7, plain("/b", 3)), 5: recOf(8, plain("/b", 4))})
	checkKnown(t, checkMount(t, d), 6, 9, 4)
	// Both a number and a place are taken, by two different ones.
	d = lays(map[int]string{5: recOf(6, plain("/a", 1)), 6: recOf(6, plain("/b", 2)), 7: recOf(9, plain("/a", 3))})
	checkKnown(t, checkMount(t, d), 8, 10, 2, 3)
	// One that is hit takes nobody's number.
	d = lays(map[int]string{0: recOfBan(1, banPath("/b", 9)), 5: recOf(7, plain("/a", 1)), 6: recOf(7, plain("/b", 2))})
	checkKnown(t, checkMount(t, d), 6, 8, 1)
	// A ban may have the number of an object.
	d = lays(map[int]string{0: recOfBan(7, banPath("/b", 9)), 1: recOfBan(7, banPath("/c", 9)), 5: recOf(7, plain("/a", 1))})
	checkKnown(t, checkMount(t, d), 6, 8, 1)
}

func TestMountOneInAnothersPlace(t *testing.T) {
	for first := 5; first < 20; first++ {
		for second := 5; second < 20; second++ {
			if first == second {
				continue
			}
			d := lays(map[int]string{first: recOf(3, speaks("/a", "de", 2)), second: recOf(4, speaks("/a", "de", 1))})
			checkKnown(t, checkMount(t, d), behindByHand(second), 5, 1)
			// Those that part in one of the three are both known.
			for _, other := range []impl.Obj{speaks("/a", "en", 1), speaks("/b", "de", 1), plain("/a", 1)} {
				d.Cells[second] = recOf(4, other)
				checkKnown(t, checkMount(t, d), behindByHand(second), 5, 2, 1)
			}
			// What is hit is in nobody's place, so that the earlier one is known again.
			d.Cells[second] = recOf(4, speaks("/a", "de", 1))
			d.Cells[0] = recOfBan(1, banField("etag", "v1", 1))
			checkKnown(t, checkMount(t, d), behindByHand(first), 5, 2)
			d.Cells[0] = recOfBan(9, banPath("/a", 1))
			checkKnown(t, checkMount(t, d), behindByHand(first), 10, 2)
			d.Cells[0] = recOfBan(9, banPath("/a", 2))
			checkKnown(t, checkMount(t, d), 5, 10)
			d.Cells[0] = recOfBan(9, banPath("/a", 0))
			checkKnown(t, checkMount(t, d), behindByHand(second), 10, 1)
		}
	}
}

func TestMountCellsInAnyOrder(t *testing.T) {
	for step := range 15 {
		d := lays(nil)
		var came []int
		for i := range 15 {
			d.Cells[5+(7*i+step)%15] = recOf(10*i+1, plain(fmt.Sprintf("/%d", i), i))
			came = append(came, i)
		}
		s := checkMount(t, d)
		checkKnown(t, s, behindByHand(5+(98+step)%15), 142, came...)
		for i, one := range s.Objs {
			if one.At != 5+(7*i+step)%15 || one.Seq != 10*i+1 {
				t.Fatalf("the %d. one is mounted as %#v", i, one)
			}
		}
	}
}

// What is pending is read as it will lie there, and stays pending.
func TestMountPending(t *testing.T) {
	d := lays(map[int]string{0: recOfBan(2, banPath("/x", 9)), 5: recOf(1, plain("/a", 1)), 6: recOf(3, plain("/b", 2))})
	d.Pending = []impl.Write{{At: 5, Text: recOf(4, plain("/c", 3))}, {At: 1, Text: recOfBan(5, banPath("/b", 9))}, {At: 7, Text: "x"}, {At: 7, Text: recOf(6, plain("/d", 4))}}
	s := checkMount(t, d)
	checkKnown(t, s, 8, 7, 3, 4)
	if !sameDisk(s.Disk, d) || len(s.Bans) != 2 {
		t.Fatalf("Mount(%#v) = %#v", d, s)
	}
	for _, keep := range keepsOf(5) {
		checkMount(t, impl.Crash(d, keep))
	}
	for _, was := range rightShelves() {
		s := was
		for _, o := range keptObjs() {
			s, _ = impl.Keep(s, o)
			m, flushed := checkMount(t, s.Disk), checkMount(t, impl.Flush(s.Disk))
			flushed.Disk = m.Disk
			if !sameShelf(m, flushed) {
				t.Fatalf("pending it is mounted as %#v, flushed as %#v", m, flushed)
			}
		}
	}
}

// Each of these texts in each of some cells, with some bans ahead.
func TestMountOfAllKindsOfCells(t *testing.T) {
	texts := []string{"", recOf(1, speaks("/a", "de", 1)), recOf(2, speaks("/a", "de", 2)), recOf(2, speaks("/a", "en", 3)), recOf(3, speaks("/a", "en", 4)), recOf(3, plain("/b", 5)), recOf(impl.MaxSeq, speaks("/a", "de", 6))}
	for _, ban := range []string{"", recOfBan(9, banField("etag", "v2", 2)), recOfBan(impl.MaxSeq, banPath("/a", 3)), recOfBan(1, banField("etag", "v4", 9))} {
		for i := range 7 * 7 * 7 * 7 {
			d := lays(map[int]string{0: ban, 5: texts[i%7], 6: texts[i/7%7], 12: texts[i/49%7], 19: texts[i/343]})
			checkMount(t, d)
		}
	}
}

// shelfLists are the lists of a shelf with the room behind them.
type shelfLists struct {
	disk   diskLists
	inside []objLists
	kept   []impl.Kept
	bans   []impl.Ban
}

// roomyShelf is right if the shelf is; what stands in the room is not.
func roomyShelf(s impl.Shelf) (impl.Shelf, shelfLists) {
	var whole shelfLists
	s.Disk, whole.disk = roomyDisk(s.Disk)
	for _, one := range s.Objs {
		o, lists := roomyObj(one.Obj)
		whole.kept = append(whole.kept, knows(o, one.At, one.Seq))
		whole.inside = append(whole.inside, lists)
	}
	whole.kept = append(whole.kept, knows(plain("/room", 7), -7, -7), knows(plain("/room", 7), 5, 1))
	s.Objs = whole.kept[:len(s.Objs):len(whole.kept)]
	s.Bans, whole.bans = roomyBans(s.Bans)
	return s, whole
}

func (l shelfLists) copied() shelfLists {
	var inside []objLists
	for _, lists := range l.inside {
		inside = append(inside, lists.copied())
	}
	kept := slices.Clone(l.kept)
	for i, one := range kept {
		kept[i].Obj.Names, kept[i].Obj.Values, kept[i].Obj.Resp.Fields = slices.Clone(one.Obj.Names), slices.Clone(one.Obj.Values), slices.Clone(one.Obj.Resp.Fields)
	}
	return shelfLists{l.disk.copied(), inside, kept, slices.Clone(l.bans)}
}

func (l shelfLists) same(other shelfLists) bool {
	return l.disk.same(other.disk) && slices.EqualFunc(l.inside, other.inside, objLists.same) && slices.EqualFunc(l.kept, other.kept, sameKept) && slices.Equal(l.bans, other.bans)
}

func turnShelf(s impl.Shelf) {
	turnDisk(s.Disk)
	for _, one := range s.Objs {
		turnObj(one.Obj)
	}
	for i := range s.Objs[:cap(s.Objs)] {
		s.Objs[:cap(s.Objs)][i] = knows(plain("/turned", 7), -7, -7)
	}
	for i := range s.Bans[:cap(s.Bans)] {
		s.Bans[:cap(s.Bans)][i] = impl.Ban{A: "turned"}
	}
}

// shelfAnswers tells all that is made of a shelf.
func shelfAnswers(s impl.Shelf, o impl.Obj, b impl.Ban) []impl.Shelf {
	kept, _ := impl.Keep(s, o)
	banned, _ := impl.Banish(s, b)
	found, _ := impl.Find(s, asksIn(o.Path, "de"))
	return []impl.Shelf{kept, banned, impl.Mount(s.Disk), {Objs: []impl.Kept{{Obj: found}}}}
}

func shelfAnswersByHand(s impl.Shelf, o impl.Obj, b impl.Ban) []impl.Shelf {
	kept, _ := keepByHand(s, o)
	banned, _ := banishByHand(s, b)
	found, _ := findByHand(s, asksIn(o.Path, "de"))
	return []impl.Shelf{kept, banned, mountByHand(s.Disk), {Objs: []impl.Kept{{Obj: found}}}}
}

// writtenShelves are shelves whose disks have records, some of them pending.
func writtenShelves() []impl.Shelf {
	var all []impl.Shelf
	s := impl.ShelfNew()
	for i := range 40 {
		s, _ = impl.Keep(s, speaks(fmt.Sprintf("/%d", i%18), "de", i))
		if i%9 == 0 {
			s, _ = impl.Banish(s, banPath(fmt.Sprintf("/%d", i%7), i))
		}
		if i%3 == 1 {
			all = append(all, s)
		}
	}
	return all
}

func TestShelvesAreNotWrittenInto(t *testing.T) {
	for _, was := range slices.Concat(rightShelves(), wrongShelves(), writtenShelves()) {
		for _, wasObj := range []impl.Obj{speaks("/3", "de", 99), speaks("/a", "de", 5), {}} {
			for _, b := range []impl.Ban{banPath("/3", 99), banBelow("/", 99), {}} {
				s, lists := roomyShelf(was)
				o, inside := roomyObj(wasObj)
				before, insideBefore := lists.copied(), inside.copied()
				checkShelfOk(t, s, shelfOkByHand(was))
				for i, answer := range shelfAnswers(s, o, b) {
					if want := shelfAnswersByHand(was, wasObj, b)[i]; !sameShelf(answer, want) {
						t.Fatalf("with room behind it %#v makes %#v, not %#v", was, answer, want)
					}
					turnShelf(answer)
				}
				if !lists.same(before) || !inside.same(insideBefore) {
					t.Fatalf("%#v or %#v was written into, or its room: %#v, %#v", was, wasObj, lists, inside)
				}
			}
		}
	}
}

// span is where a list with its room lies.
type span struct{ first, behind uintptr }

func spanOf[T any](list []T) span {
	var one T
	first := uintptr(unsafe.Pointer(unsafe.SliceData(list)))
	return span{first, first + uintptr(cap(list))*unsafe.Sizeof(one)}
}

func (s span) meets(other span) bool {
	return s.first < s.behind && other.first < other.behind && s.first < other.behind && other.first < s.behind
}

func spansOf(s impl.Shelf) []span {
	all := []span{spanOf(s.Disk.Cells), spanOf(s.Disk.Pending), spanOf(s.Objs), spanOf(s.Bans)}
	for _, one := range s.Objs {
		all = append(all, spanOf(one.Obj.Names), spanOf(one.Obj.Values), spanOf(one.Obj.Resp.Fields))
	}
	return all
}

func textsOfShelf(s impl.Shelf) []impl.Field {
	all := textsOfDisk(s.Disk)
	for _, one := range s.Objs {
		all = append(all, textsIn(one.Obj)...)
	}
	for _, b := range s.Bans {
		all = append(all, fieldsOf(b.A, b.B)...)
	}
	return all
}

func TestShelfAnswersAreNewMemory(t *testing.T) {
	for _, s := range slices.Concat(rightShelves(), wrongShelves(), writtenShelves()) {
		for _, o := range []impl.Obj{speaks("/3", "de", 99), speaks("/a", "de", 99), {}} {
			o.Path = strings.Clone(o.Path)
			b := impl.Ban{Kind: impl.BnPath, A: strings.Clone("/12"), T: 99}
			arguments := impl.Shelf{Disk: s.Disk, Objs: append(slices.Clone(s.Objs), knows(o, 5, 1)), Bans: append(slices.Clone(s.Bans), b)}
			var texts []string
			for _, f := range textsOfShelf(arguments) {
				texts = append(texts, f.Name, f.Value)
			}
			given := append(spansOf(s), spansOf(arguments)...)
			for i, answer := range shelfAnswers(s, o, b) {
				told := spansOf(answer)
				for j, one := range told {
					if slices.ContainsFunc(slices.Concat(told[:j], given), one.meets) {
						t.Fatalf("a list of the answer %d, %#v, shares memory with another one", i, answer)
					}
				}
				if sharesAny(textsOfShelf(answer), texts...) {
					t.Fatalf("a text of the answer %d, %#v, shares memory with an argument", i, answer)
				}
			}
			runtime.KeepAlive(arguments)
		}
	}
}

// Those that go on from one shelf go on beside each other.
func TestShelvesBesideEachOther(t *testing.T) {
	for _, was := range append(rightShelves(), writtenShelves()...) {
		s, _ := roomyShelf(was)
		var got, want [6]impl.Shelf
		for i, path := range []string{"/first", "/second"} {
			got[i], _ = impl.Keep(s, speaks(path, "de", 99))
			want[i], _ = keepByHand(was, speaks(path, "de", 99))
			got[2+i], _ = impl.Banish(s, banPath(path, 99))
			want[2+i], _ = banishByHand(was, banPath(path, 99))
		}
		for i, path := range []string{"/first", "/second"} {
			got[4+i], _ = impl.Banish(got[i], banPath(path, 99))
			want[4+i], _ = banishByHand(want[i], banPath(path, 99))
		}
		for i := range got {
			if !sameShelf(got[i], want[i]) {
				t.Fatalf("of %#v there is %#v, not %#v", was, got[i], want[i])
			}
		}
	}
}

func TestPromise14WhatIsKeptIsFound(t *testing.T) {
	for _, was := range rightShelves() {
		for _, lang := range []string{"de", "en", "-"} {
			for _, path := range []string{"/a", "/3", "/new"} {
				q, r := asksIn(path, lang), tells("cache-control", "max-age=5", "vary", "Lang")
				o, _ := impl.ObjOf(q, r, 99)
				s, ok := checkKeep(t, was, o)
				if ok != (was.Seq < impl.MaxSeq) {
					t.Fatalf("%#v is kept: %v", o, ok)
				}
				if !ok {
					continue
				}
				checkFound(t, s, q, 99)
				m := impl.Mount(impl.Flush(s.Disk))
				checkFound(t, m, q, 99)
				if !slices.ContainsFunc(m.Objs, func(one impl.Kept) bool { return sameKept(one, knows(o, was.Next, was.Seq)) }) {
					t.Fatalf("%#v is not mounted: %#v", o, m)
				}
			}
		}
	}
}

func TestPromise14WhatIsBanishedIsFoundNoMore(t *testing.T) {
	for _, was := range writtenShelves() {
		for _, one := range was.Objs {
			for _, b := range []impl.Ban{banPath(one.Obj.Path, one.Obj.T), banBelow("/", one.Obj.T), banField("etag", fmt.Sprintf("v%d", one.Obj.T), impl.MaxTime)} {
				s, ok := checkBanish(t, was, b)
				if ok != (len(was.Bans) < 5) {
					t.Fatalf("%#v is banished: %v", b, ok)
				}
				if !ok {
					continue
				}
				q := asksIn(one.Obj.Path, "de")
				for _, keep := range [][]bool{nil, {true}, {false, true}, slices.Repeat([]bool{true}, 16)} {
					m := checkMount(t, impl.Crash(s.Disk, keep))
					if o, found := impl.Find(m, q); found && hitsByHand(b, o) || !slices.Equal(m.Bans, s.Bans) {
						t.Fatalf("behind %#v it finds %#v, with the bans %#v", b, o, m.Bans)
					}
				}
				if o, found := impl.Find(s, q); found && hitsByHand(b, o) {
					t.Fatalf("behind %#v it finds %#v", b, o)
				}
			}
		}
	}
}

// Whatever part of the writes behind a ban is lost, the ban is there.
func TestPromise14BehindAnyCrash(t *testing.T) {
	s := impl.ShelfNew()
	for i := range 6 {
		s, _ = impl.Keep(s, speaks(fmt.Sprintf("/%d", i%3), "de", i))
	}
	s, _ = impl.Banish(s, banPath("/1", 4))
	for i := range 6 {
		s, _ = impl.Keep(s, speaks(fmt.Sprintf("/%d", i%3), "de", i))
	}
	// Those of /1 that came at 1 and 4 are refused, so 4 writes are pending.
	if len(s.Disk.Pending) != 4 || s.Seq != 12 {
		t.Fatalf("it is %#v", s)
	}
	for _, keep := range keepsOf(5) {
		m := checkMount(t, impl.Crash(s.Disk, keep))
		checkFound(t, m, asksIn("/1", "de"), -1)
		all := append(slices.Clone(keep), make([]bool, 3)...)
		came := 3
		if all[0] && !all[2] {
			came = 0
		}
		checkFound(t, m, asksIn("/0", "de"), came)
		if !slices.Equal(m.Bans, s.Bans) {
			t.Fatalf("the bans are %#v", m.Bans)
		}
	}
}

// shelfRun does what a row of numbers tells, and holds the shelf to all that
// was kept and banned ahead.
func shelfRun(t *testing.T, number uint32, deeds int) {
	t.Helper()
	next := func(below int) int {
		number = number*1664525 + 1013904223
		return int(number>>8) % below
	}
	s := impl.ShelfNew()
	if next(4) == 0 {
		s.Seq = impl.MaxSeq - 20
	}
	var bans []impl.Ban
	var texts []string
	for i := range deeds {
		switch next(12) {
		case 0:
			s.Disk = impl.Flush(s.Disk)
		case 1, 2:
			keep := make([]bool, next(20))
			for j := range keep {
				keep[j] = next(3) > 0
			}
			s = checkMount(t, impl.Crash(s.Disk, keep))
		case 3:
			b := []impl.Ban{banPath(fmt.Sprintf("/%d", next(9)), i), banBelow(fmt.Sprintf("/%d", next(9)), i), banField("etag", fmt.Sprintf("v%d", max(0, i-next(9))), i)}[next(3)]
			if next(8) == 0 {
				after, ok := checkBanish(t, s, b)
				if s = after; ok {
					bans = append(bans, b)
				}
			}
		default:
			o := speaks(fmt.Sprintf("/%d", next(9)), []string{"de", "en"}[next(2)], max(0, i-next(5)))
			after, ok := checkKeep(t, s, o)
			if s = after; ok {
				texts = append(texts, objTextByHand(o))
				checkFound(t, s, asksIn(o.Path, o.Values[0]), o.T)
			}
		}
		checkShelfRun(t, s, bans, texts)
	}
}

func checkShelfRun(t *testing.T, s impl.Shelf, bans []impl.Ban, texts []string) {
	t.Helper()
	checkShelfOk(t, s, true)
	m, nothing := impl.Mount(impl.Flush(s.Disk)), impl.Mount(impl.Crash(s.Disk, nil))
	if !slices.Equal(s.Bans, bans) || !slices.Equal(m.Bans, bans) || !slices.Equal(nothing.Bans, bans) {
		t.Fatalf("the bans are %#v, %#v and %#v, not %#v", s.Bans, m.Bans, nothing.Bans, bans)
	}
	for _, one := range slices.Concat(s.Objs, m.Objs, nothing.Objs) {
		if !slices.Contains(texts, objTextByHand(one.Obj)) || hitByHand(bans, one.Obj) {
			t.Fatalf("%#v is known", one)
		}
	}
	for _, one := range s.Objs {
		if !slices.ContainsFunc(m.Objs, func(other impl.Kept) bool { return sameKept(one, other) }) {
			t.Fatalf("%#v is not mounted: %#v", one, m)
		}
	}
}

func TestPromise14OverLongRuns(t *testing.T) {
	for number := range uint32(30) {
		shelfRun(t, number, 150)
	}
}

func TestPromise14ShelvesAnswerAnything(t *testing.T) {
	long := strings.Repeat("x", 100000)
	much := shelves()
	much.Objs = slices.Repeat([]impl.Kept{knows(plain("/a", 1), 5, 1)}, 10000)
	many := shelves()
	many.Bans = slices.Repeat([]impl.Ban{banPath("/a", 1)}, 10000)
	odd := shelves(knows(impl.Obj{Path: long, Names: make([]string, 1000), Values: make([]string, 1000), Resp: impl.Resp{Status: math.MinInt, Fields: make([]impl.Field, 1000), Body: long}, T: math.MaxInt}, math.MinInt, math.MaxInt))
	wide := impl.Shelf{Disk: impl.Disk{Cells: make([]string, 10000), Pending: make([]impl.Write, 10000)}, Next: math.MaxInt, Seq: math.MinInt}
	full := impl.Shelf{Disk: impl.Disk{Cells: slices.Repeat([]string{long}, 20), Pending: slices.Repeat([]impl.Write{{At: 19, Text: long}}, 16)}, Next: 19, Seq: impl.MaxSeq - 1}
	for _, s := range []impl.Shelf{{}, much, many, odd, wide, full} {
		for _, o := range []impl.Obj{{}, odd.Objs[0].Obj, plain("/a", 1), longestObj()} {
			checkKeep(t, s, o)
		}
		for _, b := range []impl.Ban{{}, {Kind: math.MinInt, A: long, B: long, T: math.MaxInt}, banPath("/"+long, 7), banField(long, long, 7), banPath("/a", 7)} {
			checkBanish(t, s, b)
		}
		for _, q := range []impl.Req{{}, {Method: math.MinInt, Path: long, Fields: make([]impl.Field, 10000), Body: long}, asks()} {
			checkFind(t, s, q)
		}
		checkMount(t, s.Disk)
	}
}
