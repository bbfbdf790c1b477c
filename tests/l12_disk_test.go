package tests

import (
	"fmt"
	"math"
	"slices"
	"strings"
	"testing"

	"loop.example/g00239/impl"
)

// cellsOf tells n cells, each with a text of its own.
func cellsOf(n int) []string {
	var all []string
	for i := range n {
		all = append(all, fmt.Sprintf("cell %d", i))
	}
	return all
}

// writesTo tells a write to each of these places, each with a text of its own.
func writesTo(places ...int) []impl.Write {
	var all []impl.Write
	for i, at := range places {
		all = append(all, impl.Write{At: at, Text: fmt.Sprintf("write %d", i)})
	}
	return all
}

// manyWrites tells n writes to several cells, some of them twice and more.
func manyWrites(n int) []impl.Write {
	var places []int
	for i := range n {
		places = append(places, i*7%20)
		if i%3 == 2 {
			places[i] = places[i-1]
		}
	}
	return writesTo(places...)
}

// holds is a right disk, each cell with a text, with these writes.
func holds(writes ...impl.Write) impl.Disk {
	return impl.Disk{Cells: cellsOf(20), Pending: writes}
}

func sameDisk(a, b impl.Disk) bool {
	return slices.Equal(a.Cells, b.Cells) && slices.Equal(a.Pending, b.Pending)
}

func isPlaceByHand(at int) bool {
	return slices.Contains([]int{0, 1, 2, 3, 4, 5, 6, 7, 8, 9, 10, 11, 12, 13, 14, 15, 16, 17, 18, 19}, at)
}

func diskOkByHand(d impl.Disk) bool {
	return len(d.Cells) == 20 && len(d.Pending) < 17 && !slices.ContainsFunc(d.Pending, func(w impl.Write) bool { return !isPlaceByHand(w.At) })
}

// lastByHand looks from behind for the last write to the cell that counts.
func lastByHand(d impl.Disk, at int, counts func(i int) bool) string {
	for i := len(d.Pending) - 1; i >= 0; i-- {
		if d.Pending[i].At == at && counts(i) {
			return d.Pending[i].Text
		}
	}
	return d.Cells[at]
}

func landedByHand(d impl.Disk, counts func(i int) bool) impl.Disk {
	if !diskOkByHand(d) {
		return impl.Disk{}
	}
	var cells []string
	for at := range 20 {
		cells = append(cells, lastByHand(d, at, counts))
	}
	return impl.Disk{Cells: cells}
}

func each(int) bool { return true }

func flushByHand(d impl.Disk) impl.Disk { return landedByHand(d, each) }

func crashByHand(d impl.Disk, keep []bool) impl.Disk {
	return landedByHand(d, func(i int) bool { return i < len(keep) && keep[i] })
}

func diskGetByHand(d impl.Disk, at int) string {
	if !diskOkByHand(d) || !isPlaceByHand(at) {
		return ""
	}
	return lastByHand(d, at, each)
}

func diskPutByHand(d impl.Disk, at int, text string) (impl.Disk, bool) {
	if !diskOkByHand(d) {
		return impl.Disk{}, false
	}
	if len(d.Pending) == 16 || !isPlaceByHand(at) {
		return d, false
	}
	return impl.Disk{Cells: d.Cells, Pending: slices.Concat(d.Pending, []impl.Write{{At: at, Text: text}})}, true
}

func checkDiskOk(t *testing.T, d impl.Disk, want bool) {
	t.Helper()
	if got := impl.DiskOk(d); got != want {
		t.Fatalf("DiskOk(%#v) = %v", d, got)
	}
}

func checkDiskPut(t *testing.T, d impl.Disk, at int, text string) {
	t.Helper()
	want, wantOk := diskPutByHand(d, at, text)
	got, ok := impl.DiskPut(d, at, text)
	if !sameDisk(got, want) || ok != wantOk {
		t.Fatalf("DiskPut(%#v, %d, %#v) = %#v, %v, not %#v, %v", d, at, text, got, ok, want, wantOk)
	}
	checkDiskOk(t, got, diskOkByHand(d))
}

func checkDiskGet(t *testing.T, d impl.Disk, at int, want string) {
	t.Helper()
	if got := impl.DiskGet(d, at); got != want {
		t.Fatalf("DiskGet(%#v, %d) = %#v, not %#v", d, at, got, want)
	}
}

func checkFlush(t *testing.T, d, want impl.Disk) {
	t.Helper()
	got := impl.Flush(d)
	if !sameDisk(got, want) {
		t.Fatalf("Flush(%#v) = %#v, not %#v", d, got, want)
	}
	checkDiskOk(t, got, diskOkByHand(d))
}

func checkCrash(t *testing.T, d impl.Disk, keep []bool, want impl.Disk) {
	t.Helper()
	got := impl.Crash(d, keep)
	if !sameDisk(got, want) {
		t.Fatalf("Crash(%#v, %v) = %#v, not %#v", d, keep, got, want)
	}
	checkDiskOk(t, got, diskOkByHand(d))
}

// checkDiskByHand holds all that is asked of a disk to what was worked out by
// hand.
func checkDiskByHand(t *testing.T, d impl.Disk, keeps ...[]bool) {
	t.Helper()
	checkDiskOk(t, d, diskOkByHand(d))
	for _, at := range allPlaces() {
		checkDiskGet(t, d, at, diskGetByHand(d, at))
		checkDiskPut(t, d, at, "put")
	}
	checkFlush(t, d, flushByHand(d))
	for _, keep := range keeps {
		checkCrash(t, d, keep, crashByHand(d, keep))
	}
}

// farPlaces are no cells; some are cells' numbers where bits or signs get lost.
func farPlaces() []int {
	return []int{math.MinInt, math.MinInt + 1, math.MinInt + 19, -1 << 32, -1<<32 + 3, -256, -255, -100, -21, -20, -19, -2, -1, 20, 21, 22, 39, 40, 100, 256, 259, 1 << 16, 1<<16 + 3, 1<<31 - 1, 1 << 31, 1 << 32, 1<<32 + 3, math.MaxInt - 1, math.MaxInt}
}

func allPlaces() []int {
	all := farPlaces()
	for at := range 20 {
		all = append(all, at)
	}
	return all
}

// keepsOf tells every list of at most most answers, the empty one too.
func keepsOf(most int) [][]bool {
	all := [][]bool{nil}
	from := 0
	for range most {
		to := len(all)
		for _, head := range all[from:to] {
			all = append(all, slices.Concat(head, []bool{false}), slices.Concat(head, []bool{true}))
		}
		from = to
	}
	return all
}

// someKeeps are of all kinds and lengths, shorter and longer than writes are.
func someKeeps() [][]bool {
	all := [][]bool{nil, {}, {true}, {false}, {true, false}, {false, true}, slices.Repeat([]bool{true}, 1000), slices.Repeat([]bool{false}, 1000)}
	for n := 1; n <= 18; n++ {
		one, none, second := make([]bool, n), slices.Repeat([]bool{true}, n), make([]bool, n)
		one[n-1], none[n-1] = true, false
		for i := range second {
			second[i] = i%2 == n%2
		}
		all = append(all, one, none, second, slices.Repeat([]bool{true}, n), make([]bool, n))
	}
	return all
}

func diskTexts() []string {
	return []string{"", "x", " ", "\n", "\r\n", "\x00", "\xff\xfe", "\xc3", "\u00e4", "cell 3", "write 0", bytesFrom(0, 256), strings.Repeat("x", impl.MaxRec), strings.Repeat("y", 100000)}
}

func rightDisks() []impl.Disk {
	all := []impl.Disk{
		{Cells: make([]string, 20)}, {Cells: make([]string, 20), Pending: []impl.Write{}}, {Cells: make([]string, 20), Pending: make([]impl.Write, 16)}, {Cells: make([]string, 20), Pending: writesTo(0, 19)}, {Cells: slices.Repeat([]string{"same"}, 20), Pending: []impl.Write{{At: 3, Text: "same"}, {At: 3}, {At: 4, Text: "same"}}},
		holds(), holds(writesTo(0)...), holds(writesTo(19)...), holds(writesTo(3, 3, 3)...), holds(writesTo(19, 0, 19, 0, 5)...), holds(impl.Write{At: 3}), holds(impl.Write{At: 3, Text: "x"}, impl.Write{At: 3}), holds(impl.Write{At: 3}, impl.Write{At: 3, Text: "x"}), holds(impl.Write{At: 3, Text: "cell 3"}), holds(writesTo(slices.Repeat([]int{7}, 16)...)...),
	}
	for n := range 17 {
		all = append(all, holds(manyWrites(n)...), impl.Disk{Cells: make([]string, 20), Pending: manyWrites(n)})
	}
	for i, text := range diskTexts() {
		d := holds(impl.Write{At: 3, Text: "x"}, impl.Write{At: 19 - i, Text: text}, impl.Write{At: 3, Text: text})
		d.Cells[i] = text
		all = append(all, d)
	}
	return all
}

// wrongDisks are wrong in one way each, but for the first ones.
func wrongDisks() []impl.Disk {
	all := []impl.Disk{{}, {Pending: writesTo(3)}, {Cells: []string{"x"}}, {Cells: []string{}, Pending: writesTo(-1)}, {Cells: cellsOf(3), Pending: writesTo(3)}, {Cells: cellsOf(21), Pending: manyWrites(17)}}
	for _, n := range []int{0, 1, 2, 16, 19, 21, 22, 40, 256, 276, 1000} {
		all = append(all, impl.Disk{Cells: cellsOf(n)}, impl.Disk{Cells: cellsOf(n), Pending: writesTo(0)}, impl.Disk{Cells: make([]string, n), Pending: manyWrites(16)})
	}
	for _, n := range []int{17, 18, 20, 32, 256, 272, 1000} {
		all = append(all, holds(manyWrites(n)...), holds(make([]impl.Write, n)...), impl.Disk{Cells: make([]string, 20), Pending: manyWrites(n)})
	}
	for _, at := range farPlaces() {
		for _, n := range []int{1, 3, 16} {
			for _, i := range []int{0, n / 2, n - 1} {
				writes := manyWrites(n)
				writes[i].At = at
				all = append(all, holds(writes...))
			}
		}
	}
	return all
}

func TestDiskNumbersAreAsTheyAreTold(t *testing.T) {
	if impl.Cells != 20 || impl.MaxPending != 16 {
		t.Error("other numbers are told", impl.Cells, impl.MaxPending)
	}
}

func TestDiskOk(t *testing.T) {
	for _, d := range rightDisks() {
		checkDiskOk(t, d, true)
	}
	for _, d := range wrongDisks() {
		checkDiskOk(t, d, false)
	}
}

func TestDiskOkCells(t *testing.T) {
	for n := range 3 * impl.Cells {
		for _, cells := range [][]string{cellsOf(n), make([]string, n)} {
			for _, writes := range [][]impl.Write{nil, {}, writesTo(0), writesTo(0, 0), manyWrites(16)} {
				checkDiskOk(t, impl.Disk{Cells: cells, Pending: writes}, n == 20)
			}
			checkDiskOk(t, impl.Disk{Cells: cells, Pending: manyWrites(17)}, false)
			checkDiskOk(t, impl.Disk{Cells: cells, Pending: writesTo(-1)}, false)
			// Behind the last cell of those that should be there.
			checkDiskOk(t, impl.Disk{Cells: cells, Pending: writesTo(20)}, false)
		}
	}
	for _, n := range []int{256 + 20, 1<<16 + 20, 100000} {
		checkDiskOk(t, impl.Disk{Cells: make([]string, n)}, false)
	}
}

func TestDiskOkPending(t *testing.T) {
	for n := range 3 * impl.MaxPending {
		for _, writes := range [][]impl.Write{manyWrites(n), make([]impl.Write, n), writesTo(slices.Repeat([]int{19}, n)...)} {
			checkDiskOk(t, holds(writes...), n <= 16)
			checkDiskOk(t, impl.Disk{Cells: make([]string, 20), Pending: writes}, n <= 16)
			checkDiskOk(t, impl.Disk{Cells: cellsOf(19), Pending: writes}, false)
			checkDiskOk(t, impl.Disk{Cells: cellsOf(21), Pending: writes}, false)
		}
	}
	for _, n := range []int{256, 256 + 16, 1 << 16, 1<<16 + 1, 100000} {
		checkDiskOk(t, holds(make([]impl.Write, n)...), false)
	}
}

func TestDiskOkPlaces(t *testing.T) {
	for n := 1; n <= impl.MaxPending; n++ {
		for i := range n {
			for _, at := range allPlaces() {
				for _, text := range []string{"", "x"} {
					writes := manyWrites(n)
					writes[i] = impl.Write{At: at, Text: text}
					checkDiskOk(t, holds(writes...), 0 <= at && at < 20)
				}
			}
		}
	}
}

func TestDiskOkTexts(t *testing.T) {
	for _, text := range append(oddTexts(), diskTexts()...) {
		checkDiskOk(t, impl.Disk{Cells: slices.Repeat([]string{text}, 20), Pending: []impl.Write{{At: 3, Text: text}}}, true)
		checkDiskOk(t, impl.Disk{Cells: slices.Repeat([]string{text}, 20), Pending: []impl.Write{{At: 20, Text: text}}}, false)
		checkDiskOk(t, impl.Disk{Cells: slices.Repeat([]string{text}, 19), Pending: []impl.Write{{At: 3, Text: text}}}, false)
	}
}

func TestDiskNew(t *testing.T) {
	d := impl.DiskNew()
	if !slices.Equal(d.Cells, make([]string, 20)) || len(d.Pending) != 0 {
		t.Fatalf("DiskNew() = %#v", d)
	}
	checkDiskByHand(t, d, someKeeps()...)
	for at := range 20 {
		checkDiskGet(t, d, at, "")
	}
	checkFlush(t, d, d)
	checkCrash(t, d, nil, d)
}

func TestNewDisksShareNothing(t *testing.T) {
	first, second := impl.DiskNew(), impl.DiskNew()
	put, _ := impl.DiskPut(first, 3, "x")
	turnDisk(first)
	turnDisk(put)
	turnDisk(impl.Flush(second))
	if !sameDisk(second, impl.Disk{Cells: make([]string, 20)}) || !sameDisk(impl.DiskNew(), second) {
		t.Fatalf("a new disk turned with another one: %#v, %#v", second, impl.DiskNew())
	}
}

func TestDiskPut(t *testing.T) {
	for _, at := range []int{0, 1, 10, 18, 19} {
		d, ok := impl.DiskPut(impl.DiskNew(), at, "x")
		if !ok || !slices.Equal(d.Cells, make([]string, 20)) || !slices.Equal(d.Pending, []impl.Write{{At: at, Text: "x"}}) {
			t.Fatalf("the first write to %d makes %#v, %v", at, d, ok)
		}
		d, ok = impl.DiskPut(d, at, "")
		if !ok || !slices.Equal(d.Cells, make([]string, 20)) || !slices.Equal(d.Pending, []impl.Write{{At: at, Text: "x"}, {At: at}}) {
			t.Fatalf("the second write to %d makes %#v, %v", at, d, ok)
		}
		d, ok = impl.DiskPut(d, at, "x")
		if !ok || !slices.Equal(d.Pending, []impl.Write{{At: at, Text: "x"}, {At: at}, {At: at, Text: "x"}}) {
			t.Fatalf("the third write to %d makes %#v, %v", at, d, ok)
		}
	}
	for _, d := range rightDisks() {
		for _, at := range allPlaces() {
			for _, text := range []string{"", "x", "cell 3", "\xff\x00"} {
				checkDiskPut(t, d, at, text)
			}
		}
	}
}

func TestDiskPutTexts(t *testing.T) {
	for _, text := range diskTexts() {
		checkDiskPut(t, holds(manyWrites(15)...), 3, text)
		checkDiskPut(t, holds(manyWrites(16)...), 3, text)
	}
	for _, text := range append(oddTexts(), diskTexts()...) {
		checkDiskPut(t, holds(impl.Write{At: 3, Text: text}), 3, text)
		checkDiskPut(t, holds(impl.Write{At: 3, Text: text}), 20, text)
		checkDiskPut(t, impl.Disk{Cells: slices.Repeat([]string{text}, 20)}, 19, text)
	}
}

func TestDiskPutWhereThereIsNoRoom(t *testing.T) {
	for n := 0; n <= impl.MaxPending; n++ {
		for _, at := range []int{0, 3, 19} {
			d, ok := impl.DiskPut(holds(manyWrites(n)...), at, "last")
			want := holds(manyWrites(n)...)
			if n < 16 {
				want.Pending = append(want.Pending, impl.Write{At: at, Text: "last"})
			}
			if ok != (n < 16) || !sameDisk(d, want) {
				t.Fatalf("a write behind %d makes %#v, %v", n, d, ok)
			}
		}
	}
	// Nothing goes beyond MaxPending, however often it is tried; behind a Flush there is room.
	d := impl.DiskNew()
	for i := range 50 {
		next, ok := impl.DiskPut(d, i%20, "x")
		if ok != (i < 16) || len(next.Pending) != min(i+1, 16) {
			t.Fatalf("the write %d is told %v, and %d are pending", i, ok, len(next.Pending))
		}
		d = next
	}
	if next, ok := impl.DiskPut(impl.Flush(d), 3, "y"); !ok || !slices.Equal(next.Pending, []impl.Write{{At: 3, Text: "y"}}) {
		t.Fatalf("behind a Flush a write makes %#v, %v", next, ok)
	}
}

func TestDiskPutWhereThereIsNoCell(t *testing.T) {
	for _, at := range farPlaces() {
		for _, n := range []int{0, 1, 15, 16} {
			for _, text := range []string{"", "x"} {
				d, ok := impl.DiskPut(holds(manyWrites(n)...), at, text)
				if ok || !sameDisk(d, holds(manyWrites(n)...)) {
					t.Fatalf("a write to %d makes %#v, %v", at, d, ok)
				}
			}
		}
	}
}

func TestDiskPutToWhatIsNoDisk(t *testing.T) {
	for _, d := range wrongDisks() {
		for _, at := range []int{-1, 0, 3, 19, 20, math.MinInt, math.MaxInt} {
			for _, text := range []string{"", "x"} {
				if got, ok := impl.DiskPut(d, at, text); ok || !sameDisk(got, impl.Disk{}) {
					t.Fatalf("DiskPut(%#v, %d, %q) = %#v, %v", d, at, text, got, ok)
				}
			}
		}
	}
}

func TestDiskGet(t *testing.T) {
	fresh := impl.Disk{Cells: make([]string, 20)}
	checkDiskGet(t, fresh, 3, "")
	checkDiskGet(t, holds(), 0, "cell 0")
	checkDiskGet(t, holds(), 19, "cell 19")
	checkDiskGet(t, holds(writesTo(3)...), 3, "write 0")
	checkDiskGet(t, holds(writesTo(3)...), 2, "cell 2")
	checkDiskGet(t, holds(writesTo(3)...), 4, "cell 4")
	checkDiskGet(t, holds(writesTo(3, 3)...), 3, "write 1")
	checkDiskGet(t, holds(writesTo(3, 4, 3, 4, 5)...), 3, "write 2")
	checkDiskGet(t, holds(writesTo(3, 4, 3, 4, 5)...), 4, "write 3")
	checkDiskGet(t, holds(writesTo(3, 4, 3, 4, 5)...), 5, "write 4")
	checkDiskGet(t, holds(writesTo(slices.Repeat([]int{19}, 16)...)...), 19, "write 15")
	// An empty text is written as any other is.
	checkDiskGet(t, holds(impl.Write{At: 3}), 3, "")
	checkDiskGet(t, holds(impl.Write{At: 3, Text: "x"}, impl.Write{At: 3}), 3, "")
	checkDiskGet(t, holds(impl.Write{At: 3}, impl.Write{At: 3, Text: "x"}), 3, "x")
	checkDiskGet(t, holds(impl.Write{At: 3, Text: "x"}, impl.Write{At: 3}, impl.Write{At: 4, Text: "y"}), 3, "")
	for _, d := range rightDisks() {
		for _, at := range allPlaces() {
			checkDiskGet(t, d, at, diskGetByHand(d, at))
		}
		for _, at := range farPlaces() {
			checkDiskGet(t, d, at, "")
		}
	}
}

func TestDiskGetOfWhatIsNoDisk(t *testing.T) {
	for _, d := range wrongDisks() {
		for _, at := range allPlaces() {
			checkDiskGet(t, d, at, "")
		}
	}
}

func TestDiskGetTexts(t *testing.T) {
	for _, text := range append(oddTexts(), diskTexts()...) {
		d := holds(impl.Write{At: 3, Text: text})
		d.Cells[0], d.Cells[19] = text, text
		for _, at := range []int{0, 3, 19} {
			checkDiskGet(t, d, at, text)
		}
		d.Pending = append(d.Pending, impl.Write{At: 19, Text: "x"}, impl.Write{At: 3, Text: "y"}, impl.Write{At: 0})
		for at, want := range map[int]string{0: "", 3: "y", 19: "x"} {
			checkDiskGet(t, d, at, want)
		}
	}
}

func TestFlush(t *testing.T) {
	for _, c := range []struct {
		writes []impl.Write
		lies   map[int]string
	}{
		{nil, nil}, {writesTo(0), map[int]string{0: "write 0"}}, {writesTo(19), map[int]string{19: "write 0"}}, {writesTo(3, 4), map[int]string{3: "write 0", 4: "write 1"}}, {writesTo(3, 3), map[int]string{3: "write 1"}}, {writesTo(3, 4, 3, 5, 3), map[int]string{3: "write 4", 4: "write 1", 5: "write 3"}},
		{[]impl.Write{{At: 3}}, map[int]string{3: ""}}, {[]impl.Write{{At: 3, Text: "x"}, {At: 3}}, map[int]string{3: ""}}, {[]impl.Write{{At: 3}, {At: 3, Text: "x"}}, map[int]string{3: "x"}}, {writesTo(slices.Repeat([]int{19}, 16)...), map[int]string{19: "write 15"}},
		{writesTo(15, 14, 13, 12, 11, 10, 9, 8, 7, 6, 5, 4, 3, 2, 1, 0), map[int]string{0: "write 15", 1: "write 14", 2: "write 13", 3: "write 12", 4: "write 11", 5: "write 10", 6: "write 9", 7: "write 8", 8: "write 7", 9: "write 6", 10: "write 5", 11: "write 4", 12: "write 3", 13: "write 2", 14: "write 1", 15: "write 0"}},
	} {
		for _, cells := range [][]string{make([]string, 20), cellsOf(20)} {
			want := slices.Clone(cells)
			for at, text := range c.lies {
				want[at] = text
			}
			checkFlush(t, impl.Disk{Cells: cells, Pending: c.writes}, impl.Disk{Cells: want})
		}
	}
	for _, d := range rightDisks() {
		flushed := impl.Flush(d)
		checkFlush(t, d, flushByHand(d))
		checkFlush(t, flushed, flushed)
		for at := range 20 {
			if flushed.Cells[at] != impl.DiskGet(d, at) {
				t.Fatalf("Flush(%#v) has other texts than DiskGet tells: %#v", d, flushed)
			}
		}
	}
}

func TestFlushOfWhatIsNoDisk(t *testing.T) {
	for _, d := range wrongDisks() {
		checkFlush(t, d, impl.Disk{})
	}
}

func TestCrash(t *testing.T) {
	for _, c := range []struct {
		writes []impl.Write
		keep   []bool
		lies   map[int]string
	}{
		{nil, nil, nil}, {nil, []bool{true, true}, nil}, {writesTo(3), nil, nil}, {writesTo(3), []bool{false}, nil}, {writesTo(3), []bool{true}, map[int]string{3: "write 0"}}, {writesTo(3), []bool{false, true}, nil}, {writesTo(3), []bool{true, false}, map[int]string{3: "write 0"}},
		{writesTo(3, 3), []bool{true}, map[int]string{3: "write 0"}}, {writesTo(3, 3), []bool{true, false}, map[int]string{3: "write 0"}}, {writesTo(3, 3), []bool{false, true}, map[int]string{3: "write 1"}}, {writesTo(3, 3), []bool{true, true}, map[int]string{3: "write 1"}}, {writesTo(3, 3), []bool{false}, nil}, {writesTo(3, 3), []bool{false, false, true}, nil},
		{writesTo(3, 4), []bool{true}, map[int]string{3: "write 0"}}, {writesTo(3, 4), []bool{false, true}, map[int]string{4: "write 1"}}, {writesTo(3, 4), []bool{true, true, true, true}, map[int]string{3: "write 0", 4: "write 1"}}, {writesTo(0, 19), []bool{true, true}, map[int]string{0: "write 0", 19: "write 1"}},
		{[]impl.Write{{At: 3, Text: "x"}, {At: 3}}, []bool{true, true}, map[int]string{3: ""}}, {[]impl.Write{{At: 3, Text: "x"}, {At: 3}}, []bool{true, false}, map[int]string{3: "x"}}, {[]impl.Write{{At: 3}}, []bool{true}, map[int]string{3: ""}}, {[]impl.Write{{At: 3}}, []bool{false}, nil},
		{writesTo(slices.Repeat([]int{19}, 16)...), slices.Repeat([]bool{true}, 15), map[int]string{19: "write 14"}}, {writesTo(slices.Repeat([]int{19}, 16)...), slices.Repeat([]bool{true}, 17), map[int]string{19: "write 15"}},
	} {
		for _, cells := range [][]string{make([]string, 20), cellsOf(20)} {
			want := slices.Clone(cells)
			for at, text := range c.lies {
				want[at] = text
			}
			checkCrash(t, impl.Disk{Cells: cells, Pending: c.writes}, c.keep, impl.Disk{Cells: want})
		}
	}
}

func TestCrashOfEachPattern(t *testing.T) {
	keeps := keepsOf(6)
	for _, places := range sizeLists([]int{0, 3, 19}, 4) {
		for _, keep := range keeps {
			d := holds(writesTo(places...)...)
			checkCrash(t, d, keep, crashByHand(d, keep))
		}
	}
	// A write that takes back what another one wrote.
	for _, keep := range keeps {
		for _, d := range []impl.Disk{holds(impl.Write{At: 3, Text: "a"}, impl.Write{At: 3, Text: "b"}, impl.Write{At: 3, Text: "a"}, impl.Write{At: 3}, impl.Write{At: 3, Text: "cell 3"}), holds(impl.Write{At: 0}, impl.Write{At: 19}, impl.Write{At: 0, Text: "cell 0"}, impl.Write{At: 19, Text: "x"}, impl.Write{At: 0})} {
			checkCrash(t, d, keep, crashByHand(d, keep))
		}
	}
}

func TestCrashByLengthOfKeep(t *testing.T) {
	for _, d := range rightDisks() {
		for _, keep := range someKeeps() {
			checkCrash(t, d, keep, crashByHand(d, keep))
		}
		n := len(d.Pending)
		lost := impl.Disk{Cells: d.Cells}
		checkCrash(t, d, nil, lost)
		checkCrash(t, d, []bool{}, lost)
		checkCrash(t, d, make([]bool, n), lost)
		checkCrash(t, d, make([]bool, n+3), lost)
		checkCrash(t, d, append(make([]bool, n), true, true, true), lost)
		checkCrash(t, d, slices.Repeat([]bool{true}, n), flushByHand(d))
		checkCrash(t, d, slices.Repeat([]bool{true}, n+3), flushByHand(d))
		checkCrash(t, d, append(slices.Repeat([]bool{true}, n), false, false), flushByHand(d))
		// As short as it is: the writes beyond it are lost.
		for first := range n {
			checkCrash(t, d, slices.Repeat([]bool{true}, first), flushByHand(impl.Disk{Cells: d.Cells, Pending: d.Pending[:first]}))
		}
	}
}

func TestCrashOfWhatIsNoDisk(t *testing.T) {
	for _, d := range wrongDisks() {
		for _, keep := range [][]bool{nil, {true}, {false}, slices.Repeat([]bool{true}, 16), slices.Repeat([]bool{true}, 17), slices.Repeat([]bool{true}, 1000), make([]bool, 16)} {
			checkCrash(t, d, keep, impl.Disk{})
		}
	}
}

func TestDisksOfAnyTexts(t *testing.T) {
	for _, text := range append(oddTexts(), diskTexts()...) {
		d := holds(impl.Write{At: 3, Text: text}, impl.Write{At: 19, Text: text + "x"}, impl.Write{At: 3, Text: "x" + text})
		d.Cells[0], d.Cells[4] = text, text+text
		checkFlush(t, d, flushByHand(d))
		for _, keep := range [][]bool{nil, {true, true, false}, {false, true, true}} {
			checkCrash(t, d, keep, crashByHand(d, keep))
		}
	}
}

// diskLists are the lists of a disk with the room behind them.
type diskLists struct {
	cells  []string
	writes []impl.Write
}

// roomyDisk is right if the disk is, and so are its lists with the room.
func roomyDisk(d impl.Disk) (impl.Disk, diskLists) {
	var whole diskLists
	d.Cells, whole.cells = longTexts(d.Cells)
	whole.writes = append(slices.Clone(d.Pending), writesTo(3, 3, 0, 19)...)
	d.Pending = whole.writes[:len(d.Pending):len(whole.writes)]
	return d, whole
}

func (l diskLists) copied() diskLists {
	return diskLists{slices.Clone(l.cells), slices.Clone(l.writes)}
}

func (l diskLists) same(other diskLists) bool {
	return slices.Equal(l.cells, other.cells) && slices.Equal(l.writes, other.writes)
}

func turnWrites(writes []impl.Write) {
	// Its spare room is the answer's own, too.
	writes = writes[:cap(writes)]
	for i := range writes {
		writes[i] = impl.Write{At: -7, Text: "turned"}
	}
}

func turnDisk(d impl.Disk) {
	turnTexts(d.Cells)
	turnWrites(d.Pending)
}

// roomyKeep tells keep in front of a longer list of what would let all land.
func roomyKeep(keep []bool) (front, whole []bool) {
	whole = slices.Concat(keep, slices.Repeat([]bool{true}, 20))
	return whole[:len(keep):len(whole)], whole
}

// diskAnswers tells all disks that are made of one.
func diskAnswers(d impl.Disk, at int, text string, keep []bool) []impl.Disk {
	put, _ := impl.DiskPut(d, at, text)
	return []impl.Disk{put, impl.Flush(d), impl.Crash(d, keep)}
}

func diskAnswersByHand(d impl.Disk, at int, text string, keep []bool) []impl.Disk {
	put, _ := diskPutByHand(d, at, text)
	return []impl.Disk{put, flushByHand(d), crashByHand(d, keep)}
}

func TestDisksAreNotWrittenInto(t *testing.T) {
	for _, was := range append(rightDisks(), wrongDisks()...) {
		for _, at := range []int{0, 3, 19, -1, 20} {
			for _, keep := range [][]bool{nil, {true}, {false, true}, slices.Repeat([]bool{true}, 16), make([]bool, 17)} {
				d, lists := roomyDisk(was)
				front, whole := roomyKeep(keep)
				before, wasWhole := lists.copied(), slices.Clone(whole)
				impl.DiskOk(d)
				impl.DiskGet(d, at)
				for i, answer := range diskAnswers(d, at, "put", front) {
					if want := diskAnswersByHand(was, at, "put", keep)[i]; !sameDisk(answer, want) {
						t.Fatalf("with room behind it %#v makes %#v, not %#v", was, answer, want)
					}
					turnDisk(answer)
				}
				if !lists.same(before) || !slices.Equal(whole, wasWhole) {
					t.Fatalf("%#v or %v was written into, or its room: %#v, %v", was, keep, lists, whole)
				}
			}
		}
	}
}

func TestDisksStay(t *testing.T) {
	for _, was := range append(rightDisks(), wrongDisks()...) {
		for _, at := range []int{0, 3, 19, 20} {
			for _, keep := range [][]bool{nil, {true}, {false, true}, slices.Repeat([]bool{true}, 16)} {
				d, lists := roomyDisk(was)
				front, whole := roomyKeep(keep)
				answers := diskAnswers(d, at, "put", front)
				for _, other := range diskAnswers(d, 5, "other", front) {
					turnDisk(other)
				}
				turnTexts(lists.cells)
				turnWrites(lists.writes)
				clear(whole)
				for i, want := range diskAnswersByHand(was, at, "put", keep) {
					if !sameDisk(answers[i], want) {
						t.Fatalf("what was made of %#v turned: %#v, not %#v", was, answers[i], want)
					}
				}
			}
		}
	}
}

// Two that go on from one disk, with room behind its writes or not, write into
// different memory.
func TestWritesBesideEachOther(t *testing.T) {
	d := impl.DiskNew()
	for n := range impl.MaxPending {
		roomy, _ := roomyDisk(d)
		for _, from := range []impl.Disk{d, roomy} {
			first, ok := impl.DiskPut(from, 3, "first")
			second, alsoOk := impl.DiskPut(from, 4, "second")
			third, _ := impl.DiskPut(first, 5, "third")
			fourth, _ := impl.DiskPut(first, 6, "fourth")
			if !ok || !alsoOk || first.Pending[n] != (impl.Write{At: 3, Text: "first"}) || second.Pending[n] != (impl.Write{At: 4, Text: "second"}) {
				t.Fatalf("writes behind %d are %#v, %#v", n, first, second)
			}
			if n < 15 && (third.Pending[n+1] != impl.Write{At: 5, Text: "third"} || fourth.Pending[n+1] != impl.Write{At: 6, Text: "fourth"}) {
				t.Fatalf("writes behind %d are %#v, %#v", n+1, third, fourth)
			}
			if len(from.Pending) != n || len(first.Pending) != n+1 {
				t.Fatalf("of %d and %d writes there are %#v, %#v", n, n+1, from, first)
			}
		}
		d, _ = impl.DiskPut(d, n, "x")
	}
}

func TestListsOfDisksShareNothing(t *testing.T) {
	for _, d := range rightDisks() {
		for i, want := range diskAnswersByHand(d, 3, "put", []bool{true}) {
			cells, writes := diskAnswers(d, 3, "put", []bool{true})[i], diskAnswers(d, 3, "put", []bool{true})[i]
			turnTexts(cells.Cells)
			turnWrites(writes.Pending)
			if !slices.Equal(cells.Pending, want.Pending) || !slices.Equal(writes.Cells, want.Cells) {
				t.Fatalf("the lists of %#v share memory: %#v, %#v", want, cells, writes)
			}
		}
	}
}

// textsOfDisk tells all texts of a disk as fields.
func textsOfDisk(d impl.Disk) []impl.Field {
	var all []impl.Field
	for _, text := range d.Cells {
		all = append(all, impl.Field{Name: text})
	}
	for _, w := range d.Pending {
		all = append(all, impl.Field{Value: w.Text})
	}
	return all
}

func TestDiskTextsAreNewMemory(t *testing.T) {
	var arguments []string
	text := func(s string) string {
		arguments = append(arguments, strings.Clone(s))
		return arguments[len(arguments)-1]
	}
	d := holds(impl.Write{At: 3, Text: text("first")}, impl.Write{At: 19, Text: text("second")}, impl.Write{At: 3, Text: text("third")})
	for i := range d.Cells {
		d.Cells[i] = text(d.Cells[i])
	}
	full := impl.Disk{Cells: d.Cells}
	for i := range 16 {
		full.Pending = append(full.Pending, impl.Write{At: i, Text: text("full")})
	}
	put := text("put")
	for _, was := range []impl.Disk{d, full, {Cells: d.Cells}} {
		for _, at := range []int{0, 3, 19, 20} {
			for _, keep := range [][]bool{nil, {true, true, true}, {true}, {false, true}} {
				for i, answer := range diskAnswers(was, at, put, keep) {
					if len(answer.Cells) != 20 || sharesAny(textsOfDisk(answer), arguments...) {
						t.Errorf("the answer %d, %#v, shares memory with an argument", i, answer)
					}
				}
			}
			if got := impl.DiskGet(was, at); sharesAny(fieldsOf(got, ""), arguments...) {
				t.Errorf("the text %q shares memory with an argument", got)
			}
		}
	}
}

func TestPromise12WhatWasFlushedIsThereBehindAnyCrash(t *testing.T) {
	for _, d := range rightDisks() {
		flushed := impl.Flush(d)
		for _, keep := range someKeeps() {
			crashed := impl.Crash(flushed, keep)
			checkCrash(t, flushed, keep, flushed)
			for at := range 20 {
				checkDiskGet(t, crashed, at, impl.DiskGet(d, at))
			}
		}
	}
}

func TestPromise12BehindLaterWrites(t *testing.T) {
	for _, d := range rightDisks() {
		flushed := impl.Flush(d)
		for n := range 17 {
			later := flushed
			places := []int{}
			for i := range n {
				at := i * i % 20
				places = append(places, at)
				later, _ = impl.DiskPut(later, at, fmt.Sprintf("later %d", i))
			}
			for _, keep := range someKeeps() {
				crashed := impl.Crash(later, keep)
				for at := range 20 {
					want := impl.DiskGet(d, at)
					for i, place := range places {
						if place == at && i < len(keep) && keep[i] {
							want = fmt.Sprintf("later %d", i)
						}
					}
					if crashed.Cells[at] != want || len(crashed.Pending) != 0 {
						t.Fatalf("behind a crash (%v) of %#v the cell %d has %q, not %q", keep, later, at, crashed.Cells[at], want)
					}
				}
			}
		}
	}
}

func TestPromise12WhatIsKeptOfItLiesThere(t *testing.T) {
	for _, d := range rightDisks() {
		for _, keep := range someKeeps() {
			// Those that are kept, and no others, flushed.
			kept := impl.Disk{Cells: d.Cells}
			for i, w := range d.Pending {
				if i < len(keep) && keep[i] {
					kept, _ = impl.DiskPut(kept, w.At, w.Text)
				}
			}
			checkCrash(t, d, keep, impl.Flush(kept))
		}
	}
}

// diskRun does what a row of numbers tells, and holds the disk to what was
// noted beside it: what lies there, and what was written since.
func diskRun(t *testing.T, number uint32, deeds int) {
	t.Helper()
	next := func(below int) int {
		number = number*1664525 + 1013904223
		return int(number>>8) % below
	}
	d := impl.DiskNew()
	noted := impl.Disk{Cells: make([]string, 20)}
	for i := range deeds {
		switch next(8) {
		case 0:
			d, noted = impl.Flush(d), flushByHand(noted)
		case 1:
			keep := make([]bool, next(20))
			for j := range keep {
				keep[j] = next(2) == 1
			}
			d, noted = impl.Crash(d, keep), crashByHand(noted, keep)
		default:
			at, text := next(24)-2, fmt.Sprintf("deed %d", i)
			wrote, wantOk := diskPutByHand(noted, at, text)
			got, ok := impl.DiskPut(d, at, text)
			if ok != wantOk {
				t.Fatalf("the deed %d of %d is told %v", i, number, ok)
			}
			d, noted = got, wrote
		}
		if !sameDisk(d, noted) {
			t.Fatalf("behind the deed %d it is %#v, not %#v", i, d, noted)
		}
		for at := range 20 {
			checkDiskGet(t, d, at, diskGetByHand(noted, at))
		}
	}
}

func TestPromise12OverLongRuns(t *testing.T) {
	for number := range uint32(60) {
		diskRun(t, number, 300)
	}
}

func TestPromise12DisksAnswerAnything(t *testing.T) {
	long := strings.Repeat("x", 100000)
	disks := append(wrongDisks(), impl.Disk{Cells: make([]string, 100000)}, impl.Disk{Cells: slices.Repeat([]string{long}, 20), Pending: []impl.Write{{At: 3, Text: long}}}, holds(make([]impl.Write, 100000)...), impl.Disk{Pending: make([]impl.Write, 100000)})
	for _, d := range append(disks, rightDisks()...) {
		checkDiskByHand(t, d, nil, []bool{true}, slices.Repeat([]bool{true}, 100000), make([]bool, 100000))
	}
}
