package tests

import (
	"math"
	"math/big"
	"slices"
	"strconv"
	"strings"
	"testing"

	"loop.example/g00239/impl"
)

// anyTimes tells numbers of any size, the limits and what stands beside them.
func anyTimes() []int {
	times := []int{math.MinInt, math.MinInt + 1, math.MinInt / 2, -1 << 32, -1 << 31, 1 << 31, 1 << 32, 1<<32 + 7, math.MaxInt / 2, math.MaxInt/2 + 1, math.MaxInt - 1, math.MaxInt}
	for _, edge := range []int{-2 * impl.MaxTime, -impl.MaxTime, -impl.MaxTime / 2, 0, impl.MaxTime / 2, impl.MaxTime, 2 * impl.MaxTime, math.MinInt + impl.MaxTime, math.MaxInt - impl.MaxTime} {
		times = append(times, edge-1, edge, edge+1)
	}
	return append(times, -9, 2, 7, 9, 10, 30, 400000, 600000)
}

// plusByHand works with numbers that have no greatest.
func plusByHand(a, b *big.Int) int {
	zero := big.NewInt(0)
	sum := big.NewInt(0)
	for _, n := range []*big.Int{a, b} {
		if n.Cmp(zero) > 0 {
			sum.Add(sum, n)
		}
	}
	if most := big.NewInt(1000000); sum.Cmp(most) > 0 {
		return 1000000
	}
	return int(sum.Int64())
}

func statedByHand(list []impl.Field) int {
	at := indexOfName(list, "age")
	if at < 0 {
		return 0
	}
	n, err := strconv.Atoi(list[at].Value)
	if err != nil || strconv.Itoa(n) != list[at].Value || n < 0 || n > 1000000 {
		return 1000000
	}
	return n
}

func ageAtByHand(list []impl.Field, came, now int) int {
	past := new(big.Int).Sub(big.NewInt(int64(now)), big.NewInt(int64(came)))
	return plusByHand(big.NewInt(int64(statedByHand(list))), past)
}

func controlByHand(list []impl.Field) impl.Cc {
	at := indexOfName(list, "cache-control")
	if at < 0 {
		return impl.Cc{}
	}
	return ccByHand(list[at].Value)
}

func freshByHand(list []impl.Field, came, now int) bool {
	c := controlByHand(list)
	return c.HasAge && !c.NoCache && ageAtByHand(list, came, now) < c.Age
}

func checkAge(t *testing.T, list []impl.Field, came, now, want int) {
	t.Helper()
	if got := impl.AgeAt(list, came, now); got != want {
		t.Fatalf("AgeAt(%q, %d, %d) = %d, not %d", list, came, now, got, want)
	}
}

func checkLife(t *testing.T, list []impl.Field, want int) {
	t.Helper()
	if got := impl.Life(list); got != want {
		t.Fatalf("Life(%q) = %d, not %d", list, got, want)
	}
}

func checkFresh(t *testing.T, list []impl.Field, came, now int, want bool) {
	t.Helper()
	if got := impl.Fresh(list, came, now); got != want {
		t.Fatalf("Fresh(%q, %d, %d) = %v", list, came, now, got)
	}
}

func TestPlus(t *testing.T) {
	for _, c := range []struct{ a, b, want int }{
		{0, 0, 0}, {0, 1, 1}, {1, 0, 1}, {2, 3, 5}, {0, impl.MaxTime, impl.MaxTime}, {impl.MaxTime, 0, impl.MaxTime},
		{-1, 0, 0}, {0, -1, 0}, {-1, -1, 0}, {-3, 5, 5}, {5, -3, 5}, {-5, 3, 3}, {-impl.MaxTime, impl.MaxTime, impl.MaxTime},
		{math.MinInt, 0, 0}, {0, math.MinInt, 0}, {math.MinInt, math.MinInt, 0}, {math.MinInt, -1, 0}, {-1, math.MinInt, 0},
		{math.MinInt, 4, 4}, {4, math.MinInt, 4}, {math.MinInt, math.MaxInt, impl.MaxTime}, {math.MaxInt, math.MinInt, impl.MaxTime},
		{400000, 600000, impl.MaxTime}, {400000, 599999, 999999}, {400000, 600001, impl.MaxTime}, {999999, 1, impl.MaxTime}, {999999, 2, impl.MaxTime},
		{999998, 1, 999999}, {500000, 500000, impl.MaxTime}, {500000, 499999, 999999}, {500001, 500000, impl.MaxTime},
		{impl.MaxTime, 1, impl.MaxTime}, {impl.MaxTime, impl.MaxTime, impl.MaxTime}, {impl.MaxTime, -1, impl.MaxTime},
		{impl.MaxTime + 1, 0, impl.MaxTime}, {0, impl.MaxTime + 1, impl.MaxTime}, {impl.MaxTime + 1, -1, impl.MaxTime}, {-1, impl.MaxTime + 1, impl.MaxTime},
		{impl.MaxTime + 1, impl.MaxTime + 1, impl.MaxTime}, {impl.MaxTime + 5, math.MinInt, impl.MaxTime},
		{math.MaxInt, 0, impl.MaxTime}, {0, math.MaxInt, impl.MaxTime}, {math.MaxInt, 1, impl.MaxTime}, {1, math.MaxInt, impl.MaxTime},
		{math.MaxInt, math.MaxInt, impl.MaxTime}, {math.MaxInt, impl.MaxTime, impl.MaxTime}, {math.MaxInt, -1, impl.MaxTime}, {1 << 62, 1 << 62, impl.MaxTime}, {1 << 32, 1 << 32, impl.MaxTime},
	} {
		if got := impl.Plus(c.a, c.b); got != c.want {
			t.Errorf("Plus(%d, %d) = %d, not %d", c.a, c.b, got, c.want)
		}
	}
}

func TestPlusOfAnySizes(t *testing.T) {
	for _, a := range anyTimes() {
		for _, b := range anyTimes() {
			if got, want := impl.Plus(a, b), plusByHand(big.NewInt(int64(a)), big.NewInt(int64(b))); got != want {
				t.Fatalf("Plus(%d, %d) = %d, not %d", a, b, got, want)
			}
		}
	}
}

func TestPlusUpToTheLimit(t *testing.T) {
	for n := 0; n <= impl.MaxTime; n += 37 {
		for more := -3; more <= 3; more++ {
			b := impl.MaxTime - n + more
			if got, want := impl.Plus(n, b), min(n+max(b, 0), impl.MaxTime); got != want {
				t.Fatalf("Plus(%d, %d) = %d, not %d", n, b, got, want)
			}
		}
	}
}

func TestAgeAt(t *testing.T) {
	for _, c := range []struct {
		list            []impl.Field
		came, now, want int
	}{
		{nil, 0, 0, 0}, {nil, 5, 5, 0}, {nil, 5, 6, 1}, {nil, 5, 4, 0}, {nil, 0, 30, 30}, {[]impl.Field{}, 3, 9, 6},
		{nil, 0, impl.MaxTime, impl.MaxTime}, {nil, 0, impl.MaxTime - 1, impl.MaxTime - 1}, {nil, 0, impl.MaxTime + 1, impl.MaxTime}, {nil, 1, impl.MaxTime + 1, impl.MaxTime}, {nil, 2, impl.MaxTime + 1, impl.MaxTime - 1},
		{nil, -5, 5, 10}, {nil, -5, -3, 2}, {nil, -3, -5, 0}, {nil, -1, 0, 1}, {nil, 0, -1, 0}, {nil, -7, -7, 0},
		{fieldsOf("age", "0"), 4, 4, 0}, {fieldsOf("age", "0"), 4, 9, 5}, {fieldsOf("age", "3"), 10, 14, 7}, {fieldsOf("age", "3"), 10, 10, 3},
		{fieldsOf("age", "3"), 10, 2, 3}, {fieldsOf("age", "3"), 10, math.MinInt, 3}, {fieldsOf("age", "3"), math.MaxInt, 0, 3},
		{fieldsOf("age", "1000000"), 0, 0, impl.MaxTime}, {fieldsOf("age", "1000000"), 0, 1, impl.MaxTime}, {fieldsOf("age", "1000000"), 1, 0, impl.MaxTime}, {fieldsOf("age", "1000000"), 0, math.MaxInt, impl.MaxTime},
		{fieldsOf("age", "1000001"), 0, 0, impl.MaxTime}, {fieldsOf("age", "999999"), 0, 0, 999999}, {fieldsOf("age", "999999"), 0, 1, impl.MaxTime}, {fieldsOf("age", "999999"), 0, 2, impl.MaxTime}, {fieldsOf("age", "999998"), 7, 8, 999999},
		{nil, math.MinInt, math.MinInt, 0}, {nil, math.MaxInt, math.MaxInt, 0}, {nil, math.MinInt, math.MaxInt, impl.MaxTime}, {nil, math.MaxInt, math.MinInt, 0},
		{nil, math.MinInt, math.MinInt + 3, 3}, {nil, math.MaxInt - 3, math.MaxInt, 3}, {nil, math.MinInt, 0, impl.MaxTime}, {nil, 0, math.MaxInt, impl.MaxTime}, {nil, 0, math.MinInt, 0}, {nil, math.MaxInt, 0, 0},
		{nil, -1, math.MaxInt, impl.MaxTime}, {nil, math.MinInt, -1, impl.MaxTime}, {nil, math.MinInt, 5, impl.MaxTime}, {fieldsOf("age", "7"), math.MinInt, math.MaxInt, impl.MaxTime}, {fieldsOf("age", "7"), math.MaxInt, math.MinInt, 7},
	} {
		checkAge(t, c.list, c.came, c.now, c.want)
	}
}

func noNumbers() []string {
	return []string{
		"", " ", "x", "+5", "-5", "-0", "+0", "--5", "00", "05", "007", "01000000", " 5", "5 ", " 5 ", "5 5", "\t5", "5\t", "5x", "x5", "5.0", "5,", ",5", "5,6", "1e3", "0x5", "1_000",
		"5\x00", "\x005", "5\xff", "\xff", "5\r\n", "\uff15", "\u0665", "max-age=5", "1000001", "1000010", "2000000", "9999999", "10000000",
		"9223372036854775807", "9223372036854775808", "18446744073709551615", "18446744073709551617", strings.Repeat("9", 400), strings.Repeat("0", 400) + "5",
	}
}

func TestAgeAtOfNoNumbers(t *testing.T) {
	for _, value := range noNumbers() {
		list := fieldsOf("age", value)
		for _, now := range []int{math.MinInt, -1, 0, 9, 10, 11, impl.MaxTime, math.MaxInt} {
			checkAge(t, list, 10, now, impl.MaxTime)
			checkAge(t, append(list, fieldsOf("age", "4")...), 10, now, impl.MaxTime)
			checkFresh(t, append(list, fieldsOf("cache-control", "max-age=1000000")...), 10, now, false)
		}
	}
}

func TestAgeAtOfAnyBytes(t *testing.T) {
	for _, s := range oddTexts() {
		for _, list := range [][]impl.Field{fieldsOf("age", s), fieldsOf(s, "5", "age", "6"), fieldsOf("age", "3"+s), fieldsOf("age"+s, "8")} {
			checkAge(t, list, 10, 11, ageAtByHand(list, 10, 11))
		}
	}
}

func TestAgeAtIsAsGetFindsIt(t *testing.T) {
	for _, c := range []struct {
		list []impl.Field
		want int
	}{
		{fieldsOf("age", "4", "age", "9"), 4}, {fieldsOf("age", "9", "age", "4"), 9}, {fieldsOf("age", "4", "age", "x"), 4}, {fieldsOf("a", "4", "age", "7", "b", "9"), 7},
		{fieldsOf("Age", "4"), 0}, {fieldsOf("AGE", "4", "age", "6"), 6}, {fieldsOf("Age", "x"), 0}, {fieldsOf(" age", "4", "age ", "5", "ag", "6", "ages", "7", "max-age", "8", "", "9"), 0},
		{fieldsOf("cache-control", "max-age=5"), 0}, {fieldsOf("cache-control", "age=5"), 0}, {fieldsOf("x", "age", "y", "5"), 0},
		{append(manyFields(8), fieldsOf("age", "5")...), 5}, {append(manyFields(60), fieldsOf("age", "5")...), 5}, {fieldsOf("\xff", "1", "age", "2"), 2},
	} {
		checkAge(t, c.list, 3, 3, c.want)
		checkAge(t, c.list, 3, 13, c.want+10)
		checkAge(t, c.list, 13, 3, c.want)
	}
	for _, list := range ageLists() {
		for _, now := range []int{2, 3, 4, 900} {
			checkAge(t, list, 3, now, ageAtByHand(list, 3, now))
		}
	}
}

func TestAgeAtOfTimesOfAnySize(t *testing.T) {
	for _, list := range [][]impl.Field{nil, fieldsOf("age", "0"), fieldsOf("age", "5"), fieldsOf("age", "600000"), fieldsOf("age", "999999"), fieldsOf("age", "1000000"), fieldsOf("age", "x")} {
		for _, came := range anyTimes() {
			for _, now := range anyTimes() {
				checkAge(t, list, came, now, ageAtByHand(list, came, now))
			}
		}
	}
}

func TestAgeAtOfTimesThatAreNear(t *testing.T) {
	for _, came := range anyTimes() {
		for past := range 40 {
			if came > math.MaxInt-past {
				continue
			}
			checkAge(t, nil, came, came+past, past)
			checkAge(t, fieldsOf("age", "12"), came, came+past, 12+past)
			checkAge(t, fieldsOf("age", "12"), came+past, came, 12)
		}
	}
}

func TestLife(t *testing.T) {
	for _, c := range []struct {
		list []impl.Field
		want int
	}{
		{nil, 0}, {[]impl.Field{}, 0}, {fieldsOf("a", "max-age=5"), 0}, {fieldsOf("age", "5"), 0}, {fieldsOf("max-age", "5"), 0},
		{fieldsOf("cache-control", ""), 0}, {fieldsOf("cache-control", "private"), 0}, {fieldsOf("cache-control", "no-cache, no-store"), 0}, {fieldsOf("cache-control", "max-age"), 0}, {fieldsOf("cache-control", "5"), 0},
		{fieldsOf("cache-control", "max-age=0"), 0}, {fieldsOf("cache-control", "max-age=1"), 1}, {fieldsOf("cache-control", "max-age=30"), 30}, {fieldsOf("cache-control", "MAX-AGE=30"), 30},
		{fieldsOf("cache-control", "max-age=999999"), 999999}, {fieldsOf("cache-control", "max-age=1000000"), impl.MaxTime}, {fieldsOf("cache-control", "max-age=1000001"), 0},
		{fieldsOf("cache-control", "max-age="), 0}, {fieldsOf("cache-control", "max-age=x"), 0}, {fieldsOf("cache-control", "max-age=05"), 0}, {fieldsOf("cache-control", "max-age=-5"), 0},
		{fieldsOf("cache-control", "max-age=9, max-age=5"), 5}, {fieldsOf("cache-control", "max-age=5, private, max-age=9"), 5}, {fieldsOf("cache-control", "max-age=5, max-age=x"), 0}, {fieldsOf("cache-control", "max-age=5, max-age=0"), 0},
		{fieldsOf("cache-control", "no-cache, max-age=7"), 7}, {fieldsOf("cache-control", "no-store, private, must-revalidate, max-age=7"), 7},
		{fieldsOf("cache-control", "max-age=7", "cache-control", "max-age=3"), 7}, {fieldsOf("cache-control", "private", "cache-control", "max-age=3"), 0},
		{fieldsOf("Cache-Control", "max-age=7"), 0}, {fieldsOf("Cache-Control", "max-age=7", "cache-control", "max-age=3"), 3}, {fieldsOf("age", "4", "cache-control", "max-age=8"), 8},
	} {
		checkLife(t, c.list, c.want)
	}
}

func TestLifeIsTheAgeOfCcOf(t *testing.T) {
	for _, list := range slices.Concat(controlLists(), ageLists()) {
		checkLife(t, list, controlByHand(list).Age)
	}
	for _, s := range oddTexts() {
		for _, value := range []string{s, "max-age=" + s, "max-age=4" + s, "max-age=4," + s} {
			checkLife(t, fieldsOf(s, "max-age=3", "cache-control", value), ccByHand(value).Age)
		}
	}
}

func TestFresh(t *testing.T) {
	for _, c := range []struct {
		list      []impl.Field
		came, now int
		want      bool
	}{
		{nil, 0, 0, false}, {[]impl.Field{}, 5, 0, false}, {fieldsOf("age", "0"), 0, 0, false},
		{fieldsOf("cache-control", "max-age=9"), 10, 10, true}, {fieldsOf("cache-control", "max-age=9"), 10, 18, true}, {fieldsOf("cache-control", "max-age=9"), 10, 19, false}, {fieldsOf("cache-control", "max-age=9"), 10, 20, false},
		{fieldsOf("cache-control", "max-age=9"), 10, 2, true}, {fieldsOf("cache-control", "max-age=9"), 10, math.MinInt, true}, {fieldsOf("cache-control", "max-age=9"), 10, math.MaxInt, false},
		{fieldsOf("cache-control", "max-age=9", "age", "3"), 10, 15, true}, {fieldsOf("cache-control", "max-age=9", "age", "3"), 10, 16, false}, {fieldsOf("cache-control", "max-age=9", "age", "3"), 10, 17, false},
		{fieldsOf("cache-control", "max-age=9", "age", "8"), 10, 10, true}, {fieldsOf("cache-control", "max-age=9", "age", "8"), 10, 11, false}, {fieldsOf("cache-control", "max-age=9", "age", "9"), 10, 0, false}, {fieldsOf("cache-control", "max-age=9", "age", "10"), 10, 10, false},
		{fieldsOf("cache-control", "max-age=1"), 0, 0, true}, {fieldsOf("cache-control", "max-age=1"), 0, 1, false}, {fieldsOf("cache-control", "max-age=0"), 0, 0, false}, {fieldsOf("cache-control", "max-age=0"), 9, 0, false},
		{fieldsOf("cache-control", "private"), 0, 0, false}, {fieldsOf("cache-control", "max-age=x"), 0, 0, false}, {fieldsOf("cache-control", "max-age=5, max-age=x"), 0, 0, false},
		{fieldsOf("cache-control", "max-age=9, max-age=4"), 0, 3, true}, {fieldsOf("cache-control", "max-age=9, max-age=4"), 0, 4, false},
		{fieldsOf("cache-control", "max-age=9, no-cache"), 0, 0, false}, {fieldsOf("cache-control", "no-cache, max-age=9"), 5, 0, false}, {fieldsOf("cache-control", "max-age=9, NO-CACHE"), 0, 0, false}, {fieldsOf("cache-control", "max-age=9, No-Cache ,x"), 0, 0, false}, {fieldsOf("cache-control", "no-cache"), 0, 0, false},
		{fieldsOf("cache-control", "max-age=9, no-store"), 0, 0, true}, {fieldsOf("cache-control", "max-age=9, private, must-revalidate"), 0, 8, true}, {fieldsOf("cache-control", "max-age=9, no-caches, xno-cache"), 0, 0, true},
		{fieldsOf("cache-control", "max-age=9", "cache-control", "no-cache"), 0, 0, true}, {fieldsOf("cache-control", "max-age=9", "no-cache", "no-cache"), 0, 0, true},
		{fieldsOf("cache-control", "max-age=1000000"), 0, 999999, true}, {fieldsOf("cache-control", "max-age=1000000"), 0, impl.MaxTime, false}, {fieldsOf("cache-control", "max-age=1000000"), 0, impl.MaxTime + 1, false}, {fieldsOf("cache-control", "max-age=1000001"), 0, 0, false},
		{fieldsOf("cache-control", "max-age=1000000", "age", "999999"), 0, 0, true}, {fieldsOf("cache-control", "max-age=1000000", "age", "1000000"), 0, 0, false}, {fieldsOf("cache-control", "max-age=1000000", "age", "1000001"), 0, 0, false}, {fieldsOf("cache-control", "max-age=1000000", "age", "x"), 0, 0, false}, {fieldsOf("cache-control", "max-age=1000000", "age", ""), 9, 0, false},
		{fieldsOf("cache-control", "max-age=1000000", "Age", "x"), 0, 0, true}, {fieldsOf("Cache-Control", "max-age=9"), 0, 0, false},
		{fieldsOf("cache-control", "max-age=9"), math.MinInt, math.MaxInt, false}, {fieldsOf("cache-control", "max-age=9"), math.MaxInt, math.MinInt, true}, {fieldsOf("cache-control", "max-age=9"), math.MinInt, math.MinInt + 8, true}, {fieldsOf("cache-control", "max-age=9"), math.MinInt, math.MinInt + 9, false}, {fieldsOf("cache-control", "max-age=9"), math.MaxInt - 8, math.MaxInt, true}, {fieldsOf("cache-control", "max-age=9"), math.MaxInt - 9, math.MaxInt, false},
	} {
		checkFresh(t, c.list, c.came, c.now, c.want)
	}
}

func TestFreshAroundItsEnd(t *testing.T) {
	for _, life := range []int{0, 1, 2, 9, 600000, 999999, impl.MaxTime} {
		for _, stated := range []int{0, 1, 2, 8, 9, 10, 500000, 999999, impl.MaxTime} {
			list := fieldsOf("age", strconv.Itoa(stated), "cache-control", "max-age="+strconv.Itoa(life))
			for _, came := range []int{-7, 0, 12, math.MaxInt - 2*impl.MaxTime, math.MinInt} {
				for beside := -2; beside <= 2; beside++ {
					past := max(life-stated+beside, 0)
					checkFresh(t, list, came, came+past, stated+past < life)
				}
			}
		}
	}
}

// ageLists tells lists of ages and lives of all kinds, of which many are not
// right.
func ageLists() [][]impl.Field {
	lists := fieldLists([]string{"age", "Age", "cache-control"}, []string{"5", "x", "max-age=8", "no-cache,max-age=8"}, 3)
	for _, age := range []string{"", "0", "1", "7", "8", "999999", "1000000", "1000001", "05", " 5"} {
		for _, control := range []string{"max-age=0", "max-age=1", "max-age=8", "max-age=1000000", "max-age=1000001", "private", "", "max-age=8,max-age=2", "max-age=8, No-Cache", "no-store, max-age=999999"} {
			lists = append(lists, fieldsOf("age", age, "cache-control", control), fieldsOf("cache-control", control, "x", "y", "age", age))
		}
	}
	return lists
}

func TestFreshIsByAgeAndLife(t *testing.T) {
	for _, list := range slices.Concat(ageLists(), allLists()) {
		for _, came := range []int{math.MinInt, -4, 0, 10, math.MaxInt} {
			for _, now := range []int{math.MinInt, math.MinInt + 7, -4, 0, 1, 3, 9, 10, 12, 18, impl.MaxTime, math.MaxInt} {
				checkFresh(t, list, came, now, freshByHand(list, came, now))
			}
		}
	}
	for _, s := range oddTexts() {
		for _, list := range [][]impl.Field{fieldsOf("cache-control", "max-age=4,"+s), fieldsOf("cache-control", "max-age="+s, "age", "0"), fieldsOf("age", s, "cache-control", "max-age=4")} {
			checkFresh(t, list, 10, 13, freshByHand(list, 10, 13))
		}
	}
}

func TestAgesWriteIntoNothing(t *testing.T) {
	for _, list := range slices.Concat(ageLists(), controlLists()) {
		front, whole := withRoom(list)
		before := slices.Clone(whole)
		age, life, fresh := impl.AgeAt(front, 3, 5), impl.Life(front), impl.Fresh(front, 3, 5)
		if !slices.Equal(whole, before) {
			t.Fatalf("%q was written into, or its room: %q", list, whole)
		}
		for i := range whole {
			whole[i] = impl.Field{Name: "age", Value: "77"}
		}
		// Nothing is kept of a list that was asked for ahead.
		impl.AgeAt(whole, 1, 900)
		impl.Fresh(whole, 1, 900)
		checkAge(t, list, 3, 5, age)
		checkLife(t, list, life)
		checkFresh(t, list, 3, 5, fresh)
	}
}

func TestAgesStayWithinTheirLimits(t *testing.T) {
	for _, list := range ageLists() {
		for _, now := range []int{math.MinInt, 0, 5, impl.MaxTime, math.MaxInt} {
			if age := impl.AgeAt(list, 4, now); age < 0 || age > impl.MaxTime {
				t.Fatalf("AgeAt(%q, 4, %d) = %d", list, now, age)
			}
		}
		if life := impl.Life(list); life < 0 || life > impl.MaxTime {
			t.Fatalf("Life(%q) = %d", list, life)
		}
	}
}

// Once it is not fresh any more it never is again, so that one pass over the
// times in their order holds each against all that are later.
func TestPromise7WhoIsFreshLaterWasFreshAhead(t *testing.T) {
	times := anyTimes()
	for n := -12; n <= 40; n++ {
		times = append(times, n)
	}
	slices.Sort(times)
	for _, list := range ageLists() {
		for _, came := range []int{math.MinInt, -impl.MaxTime, -1, 0, 1, 9, 10, impl.MaxTime, math.MaxInt - 5, math.MaxInt} {
			over, ended := false, 0
			for _, now := range times {
				fresh := impl.Fresh(list, came, now)
				if fresh && over {
					t.Fatalf("Fresh(%q, %d, ..) at %d, and not at %d", list, came, now, ended)
				}
				if !fresh && !over {
					over, ended = true, now
				}
			}
		}
	}
}

func TestPromise7AgesNeverGoBack(t *testing.T) {
	times := anyTimes()
	slices.Sort(times)
	for _, list := range [][]impl.Field{nil, fieldsOf("age", "4"), fieldsOf("age", "x"), fieldsOf("age", "999999")} {
		for _, came := range times {
			last := 0
			for _, now := range times {
				age := impl.AgeAt(list, came, now)
				if age < last {
					t.Fatalf("AgeAt(%q, %d, %d) = %d, and ahead it was %d", list, came, now, age, last)
				}
				last = age
			}
		}
	}
}
