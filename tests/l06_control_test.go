package tests

import (
	"math"
	"slices"
	"strconv"
	"strings"
	"sync"
	"testing"

	"loop.example/g00239/impl"
)

// ageByHand tells 0 of every text that is no number.
func ageByHand(digits string) int {
	n, err := strconv.Atoi(digits)
	if err != nil || strconv.Itoa(n) != digits || n < 0 || n > 1000000 {
		return 0
	}
	return n
}

func ccByHand(value string) impl.Cc {
	var c impl.Cc
	var ages []int
	for _, raw := range strings.Split(value, ",") {
		switch word := lowerByBytes(strings.Trim(raw, " ")); {
		case word == "no-store":
			c.NoStore = true
		case word == "no-cache":
			c.NoCache = true
		case word == "private":
			c.Private = true
		case word == "must-revalidate":
			c.Must = true
		case len(word) >= 8 && word[:8] == "max-age=":
			ages = append(ages, ageByHand(word[8:]))
		}
	}
	if len(ages) > 0 {
		c.HasAge, c.Age = true, slices.Min(ages)
	}
	return c
}

func ccTextByHand(c impl.Cc) string {
	text := ""
	if c.NoStore {
		text += ", no-store"
	}
	if c.NoCache {
		text += ", no-cache"
	}
	if c.Private {
		text += ", private"
	}
	if c.Must {
		text += ", must-revalidate"
	}
	if c.HasAge && (c.Age < 0 || c.Age > 1000000) {
		return ""
	}
	if c.HasAge {
		text += ", max-age=" + strconv.Itoa(c.Age)
	}
	return strings.TrimPrefix(text, ", ")
}

// firstCalls are made ahead of every test, and at the same time: nobody asked
// the program for anything of this chapter before.
var firstCalls = callAtOnce()

type ccAnswers struct {
	read, of impl.Cc
	text     string
}

func callOnce() ccAnswers {
	return ccAnswers{
		read: impl.CcRead("Must-Revalidate, private, no-cache, no-store, max-age=7"),
		of:   impl.CcOf(fieldsOf("cache-control", "no-cache, max-age=3, private")),
		text: impl.CcText(impl.Cc{NoStore: true, Must: true, HasAge: true, Age: 2}),
	}
}

func callsWanted() ccAnswers {
	return ccAnswers{
		read: impl.Cc{NoStore: true, NoCache: true, Private: true, Must: true, HasAge: true, Age: 7},
		of:   impl.Cc{NoCache: true, Private: true, HasAge: true, Age: 3},
		text: "no-store, must-revalidate, max-age=2",
	}
}

func callAtOnce() []ccAnswers {
	answers := make([]ccAnswers, 32)
	start := make(chan struct{})
	var joined sync.WaitGroup
	for i := range answers {
		joined.Go(func() {
			<-start
			answers[i] = callOnce()
		})
	}
	close(start)
	joined.Wait()
	return answers
}

func TestControlFirstCallsAndLaterOnes(t *testing.T) {
	for _, got := range slices.Concat(firstCalls, []ccAnswers{callOnce(), callOnce()}, callAtOnce()) {
		if got != callsWanted() {
			t.Fatalf("%#v, not %#v", got, callsWanted())
		}
	}
}

func TestControlKeepsNothing(t *testing.T) {
	values := []string{"", "no-store", "x", "max-age=3", "max-age=", "private, max-age=9", "must-revalidate", "no-cache"}
	for _, first := range values {
		for _, second := range values {
			impl.CcRead(first)
			if got := impl.CcRead(second); got != ccByHand(second) {
				t.Fatalf("CcRead(%q) behind %q = %#v", second, first, got)
			}
		}
	}
}

func checkCc(t *testing.T, value string, want impl.Cc) {
	t.Helper()
	if got := impl.CcRead(value); got != want {
		t.Fatalf("CcRead(%q) = %#v, not %#v", value, got, want)
	}
}

func checkByHand(t *testing.T, values ...string) {
	t.Helper()
	for _, value := range values {
		checkCc(t, value, ccByHand(value))
	}
}

func controlWords() []string {
	return []string{"no-store", "no-cache", "private", "must-revalidate", "max-age=30"}
}

func TestCcReadOfEachWord(t *testing.T) {
	for _, c := range []struct {
		value string
		want  impl.Cc
	}{
		{"no-store", impl.Cc{NoStore: true}},
		{"no-cache", impl.Cc{NoCache: true}},
		{"private", impl.Cc{Private: true}},
		{"must-revalidate", impl.Cc{Must: true}},
		{"max-age=30", impl.Cc{HasAge: true, Age: 30}},
	} {
		great := strings.ToUpper(c.value)
		title := strings.ToUpper(c.value[:1]) + c.value[1:]
		last := len(c.value) - 4
		mixed := c.value[:last] + strings.ToUpper(c.value[last:])
		for _, word := range []string{c.value, great, title, mixed} {
			checkCc(t, word, c.want)
			checkCc(t, word+","+word, c.want)
			checkCc(t, word+", "+c.value+", "+word, c.want)
			checkCc(t, "x, "+word+",y", c.want)
		}
	}
}

func TestCcReadOfAllWords(t *testing.T) {
	all := impl.Cc{NoStore: true, NoCache: true, Private: true, Must: true, HasAge: true, Age: 30}
	checkCc(t, "no-store, no-cache, private, must-revalidate, max-age=30", all)
	checkCc(t, "MAX-AGE=30,MUST-REVALIDATE,PRIVATE,NO-CACHE,NO-STORE", all)
	for _, order := range orders(controlWords()) {
		checkCc(t, strings.Join(order, ","), all)
		checkCc(t, strings.Join(order, ", ")+", "+strings.Join(order, ", "), all)
		for n := range order {
			checkByHand(t, strings.Join(order[:n], ","), strings.Join(order[:n], " , "))
		}
	}
}

// orders tells the list in every order.
func orders(list []string) [][]string {
	if len(list) == 0 {
		return [][]string{nil}
	}
	var all [][]string
	for i, first := range list {
		rest := slices.Concat(list[:i], list[i+1:])
		for _, order := range orders(rest) {
			all = append(all, append([]string{first}, order...))
		}
	}
	return all
}

// CcText tells the words of the map that is made once, and CcRead works its
// answers out beside it: both must know the same words, each for the same flag.
func TestToldWordsAndReadWordsAgree(t *testing.T) {
	flags := []struct {
		word string
		said impl.Cc
	}{
		{"no-store", impl.Cc{NoStore: true}}, {"no-cache", impl.Cc{NoCache: true}}, {"private", impl.Cc{Private: true}}, {"must-revalidate", impl.Cc{Must: true}},
	}
	for _, flag := range flags {
		checkCc(t, flag.word, flag.said)
		if got := impl.CcText(flag.said); got != flag.word {
			t.Errorf("CcText(%#v) = %q, not %q", flag.said, got, flag.word)
		}
		if got := impl.CcOf(fieldsOf("cache-control", flag.word)); got != flag.said {
			t.Errorf("CcOf of %q = %#v", flag.word, got)
		}
	}
	for _, c := range rightCcs() {
		var want []string
		for _, flag := range flags {
			if ccTogether(c, flag.said) == c {
				want = append(want, flag.word)
			}
		}
		if c.HasAge {
			want = append(want, "max-age="+strconv.Itoa(c.Age))
		}
		told := impl.Split(impl.CcText(c))
		if !slices.Equal(told, want) {
			t.Fatalf("CcText(%#v) tells %q, not %q", c, told, want)
		}
		var read impl.Cc
		for _, word := range told {
			said := impl.CcRead(word)
			if said == (impl.Cc{}) || ccTogether(c, said) != c {
				t.Fatalf("CcText(%#v) tells %q, which says %#v", c, word, said)
			}
			read = ccTogether(read, said)
		}
		if read != c {
			t.Fatalf("CcText(%#v) tells %q, which say %#v", c, told, read)
		}
	}
}

// ccTogether is for an age in one of both, or the same in both.
func ccTogether(a, b impl.Cc) impl.Cc {
	return impl.Cc{
		NoStore: a.NoStore || b.NoStore, NoCache: a.NoCache || b.NoCache, Private: a.Private || b.Private, Must: a.Must || b.Must,
		HasAge: a.HasAge || b.HasAge, Age: max(a.Age, b.Age),
	}
}

func TestWordsThatAreNoneAreNeitherReadNorTold(t *testing.T) {
	none := []string{"", "public", "no", "no-", "store", "no-stor", "no-stores", "No-Store2", "no_cache", "no-cach", "privat", "privates", "must", "revalidate", "must-revalidat", "must-revalidates", "immutable", "x", "max-age", "\xff", "no-store\x00"}
	told := make(map[string]int)
	for _, c := range rightCcs() {
		for _, word := range impl.Split(impl.CcText(c)) {
			told[word]++
		}
	}
	for _, word := range none {
		checkCc(t, word, impl.Cc{})
		checkCc(t, strings.ToUpper(word), impl.Cc{})
		if told[word] > 0 {
			t.Errorf("CcText tells %q, which says nothing", word)
		}
	}
	// Each flag stands in half of the sets.
	for _, word := range []string{"no-store", "no-cache", "private", "must-revalidate"} {
		if told[word] != len(rightCcs())/2 {
			t.Errorf("CcText tells %q %d times", word, told[word])
		}
	}
	if got := impl.CcText(impl.Cc{}); got != "" {
		t.Errorf("CcText of nothing tells %q", got)
	}
}

func TestCcReadOfBlanksAndCommas(t *testing.T) {
	for _, value := range []string{"", " ", ",", ",,,", " , ,, ", strings.Repeat(" ,", 300), strings.Repeat(" ", 300)} {
		checkCc(t, value, impl.Cc{})
	}
	want := impl.Cc{NoStore: true, Private: true, HasAge: true, Age: 4}
	for _, value := range []string{
		"no-store,private,max-age=4", "no-store, private, max-age=4", " no-store , private , max-age=4 ", ",no-store,,private,max-age=4,",
		", ,no-store,  ,   private   ,,max-age=4, ,", strings.Repeat(" ", 200) + "no-store" + strings.Repeat(",", 200) + "private,max-age=4" + strings.Repeat(" ", 200),
	} {
		checkCc(t, value, want)
	}
	for _, between := range textsOf([]string{",", " ", ";", "\t"}, 4) {
		checkByHand(t, between, "no-store"+between+"no-cache", between+"private"+between, "max-age=5"+between+"max-age=3")
	}
}

func TestCcReadOfWordsThatAreNone(t *testing.T) {
	for _, value := range []string{
		"x", "public", "store", "cache", "no", "no-", "revalidate", "must", "age", "max", "max-age", "MAX-AGE", "max-age:5", "max-age 5", "max_age=5",
		"s-max-age=5", "s-maxage=5", "xmax-age=5", "=5", "5", "max-agee=5", "max-ag=5", "max-age =5", "max -age=5", "max-age\t=5", "-max-age=5", "\"max-age=5\"",
		"no-store=1", "no-store=", "no-cache=\"a\"", "private=x", "must-revalidate=0", "no-store;", "no-store no-cache", "private private", "no-stores", "no-cached",
		"privately", "must-revalidates", "xno-store", "aprivate", "no--store", "no-stor", "no-cach", "privat", "must-revalidat", "o-store", "rivate",
		"no -store", "no- store", "no-st ore", "pri vate", "must- revalidate", "no\x00store", "no_store", "\tno-store", "no-store\t", "no-store\r\n", "\"no-store\"",
		"no\u2010store", "no-\u017ftore", "no-store\x00", "\xffprivate", "private\xff", "\u00a0private", "pr\u0131vate", "pr\u0130vate", "PR\u0130VATE", "must-reval\u0130date", "NoStore", "NoCache", "HasAge",
	} {
		checkCc(t, value, impl.Cc{})
		checkCc(t, value+",no-cache", impl.Cc{NoCache: true})
		checkCc(t, "max-age=6, "+value+" , private", impl.Cc{Private: true, HasAge: true, Age: 6})
	}
}

func TestCcReadOfWordsCutOrTurned(t *testing.T) {
	for _, word := range controlWords() {
		for at := range len(word) {
			checkByHand(t, word[:at], word[at:], word[:at]+word[at+1:])
			for _, b := range singleBytes() {
				checkByHand(t, word[:at]+b+word[at+1:], word[:at]+b+word[at:], word+b, b+word)
			}
		}
	}
}

func TestCcReadOfAnyBytes(t *testing.T) {
	for _, s := range oddTexts() {
		checkByHand(t, s, "no-store,"+s, s+",private", "no-cache"+s, s+"must-revalidate", "max-age="+s, "max-age=3"+s, "max-age=8,max-age="+s)
	}
}

func TestCcReadOfAnAge(t *testing.T) {
	if impl.MaxTime != 1000000 {
		t.Error("MaxTime", impl.MaxTime)
	}
	for _, c := range []struct {
		digits string
		want   int
	}{
		{"0", 0}, {"1", 1}, {"9", 9}, {"10", 10}, {"120", 120}, {"999999", 999999}, {"1000000", 1000000},
		{"1000001", 0}, {"1000010", 0}, {"2000000", 0}, {"9999999", 0}, {"10000000", 0}, {"9223372036854775807", 0}, {"9223372036854775808", 0},
		{"18446744073709551615", 0}, {"18446744073709551617", 0}, {strings.Repeat("9", 400), 0}, {strings.Repeat("0", 400) + "5", 0},
		{"", 0}, {"00", 0}, {"05", 0}, {"007", 0}, {"01000000", 0}, {"+5", 0}, {"-5", 0}, {"-0", 0}, {"--5", 0}, {"=5", 0},
		{"5x", 0}, {"x5", 0}, {"x", 0}, {"5.0", 0}, {"5s", 0}, {"1e3", 0}, {"0x5", 0}, {"1_000", 0}, {"5;", 0}, {"5=", 0}, {"\"5\"", 0}, {"5 5", 0}, {" 5", 0}, {"\t5", 0}, {"5\t", 0},
		{"5\x00", 0}, {"5\xff", 0}, {"\uff15", 0}, {"\u0665", 0}, {"5\r\n", 0}, {"max-age=5", 0}, {"no-store", 0},
	} {
		want := impl.Cc{HasAge: true, Age: c.want}
		for _, name := range []string{"max-age=", "MAX-AGE=", "Max-Age=", "mAX-aGE="} {
			checkCc(t, name+c.digits, want)
			checkCc(t, " "+name+c.digits+" ", want)
			checkCc(t, "x,"+name+c.digits+" ,,y", want)
			checkCc(t, name+c.digits+", private", impl.Cc{Private: true, HasAge: true, Age: c.want})
			checkCc(t, name+c.digits+", "+name+c.digits, want)
		}
	}
}

func TestCcReadOfEveryAge(t *testing.T) {
	for n := range impl.MaxTime / 97 {
		checkCc(t, "max-age="+strconv.Itoa(97*n), impl.Cc{HasAge: true, Age: 97 * n})
	}
	for n := impl.MaxTime - 50; n <= impl.MaxTime+50; n++ {
		checkByHand(t, "max-age="+strconv.Itoa(n))
	}
}

func TestCcReadOfSeveralAges(t *testing.T) {
	for _, c := range []struct {
		digits []string
		want   int
	}{
		{[]string{"2", "3"}, 2}, {[]string{"9", "10", "11"}, 9}, {[]string{"100", "20", "3"}, 3}, {[]string{"1000000", "999999"}, 999999},
		{[]string{"1000000", "1000000"}, 1000000}, {[]string{"5", "5", "6"}, 5}, {[]string{"0", "1"}, 0}, {[]string{"7", "0", "8"}, 0},
		{[]string{"7", ""}, 0}, {[]string{"7", "x"}, 0}, {[]string{"7", "07", "9"}, 0}, {[]string{"7", "-9"}, 0}, {[]string{"1000001", "7"}, 0},
		{[]string{"1000001", "1000000", "1"}, 0}, {[]string{"x", "y"}, 0}, {[]string{"4", "3", "2", "1"}, 1}, {[]string{"4", "3", "2", "x"}, 0},
	} {
		for _, order := range orders(c.digits) {
			plain, among := "max-age="+strings.Join(order, ", max-age="), "no-store"
			for _, digits := range order {
				among += ",x, MAX-AGE=" + digits + ",max-age,no-store"
			}
			checkCc(t, plain, impl.Cc{HasAge: true, Age: c.want})
			checkCc(t, among, impl.Cc{NoStore: true, HasAge: true, Age: c.want})
		}
	}
}

func TestCcReadOfLongValues(t *testing.T) {
	var long strings.Builder
	for n := 5000; n > 20; n-- {
		long.WriteString("max-age=" + strconv.Itoa(n) + ",other,")
	}
	checkCc(t, long.String(), impl.Cc{HasAge: true, Age: 21})
	checkCc(t, long.String()+"must-revalidate", impl.Cc{Must: true, HasAge: true, Age: 21})
	checkCc(t, strings.Repeat("no-store", 5000), impl.Cc{})
}

// rightCcs tells every set of flags, without an age and with some.
func rightCcs() []impl.Cc {
	var all []impl.Cc
	for flags := range 16 {
		c := impl.Cc{NoStore: flags&1 != 0, NoCache: flags&2 != 0, Private: flags&4 != 0, Must: flags&8 != 0}
		all = append(all, c)
		for _, age := range []int{0, 1, 9, 10, 600, impl.MaxTime - 1, impl.MaxTime} {
			c.HasAge, c.Age = true, age
			all = append(all, c)
		}
	}
	return all
}

func oddAges() []int {
	return []int{-1, -2, -10, -impl.MaxTime, impl.MaxTime + 1, impl.MaxTime + 2, 2 * impl.MaxTime, 1 << 32, 1<<32 + 5, math.MaxInt, math.MinInt}
}

func TestCcText(t *testing.T) {
	for _, c := range []struct {
		cc   impl.Cc
		want string
	}{
		{impl.Cc{}, ""},
		{impl.Cc{NoStore: true}, "no-store"},
		{impl.Cc{NoCache: true}, "no-cache"},
		{impl.Cc{Private: true}, "private"},
		{impl.Cc{Must: true}, "must-revalidate"},
		{impl.Cc{HasAge: true}, "max-age=0"},
		{impl.Cc{HasAge: true, Age: 5}, "max-age=5"},
		{impl.Cc{HasAge: true, Age: impl.MaxTime}, "max-age=1000000"},
		{impl.Cc{NoStore: true, NoCache: true}, "no-store, no-cache"},
		{impl.Cc{NoCache: true, Must: true}, "no-cache, must-revalidate"},
		{impl.Cc{Private: true, HasAge: true, Age: 30}, "private, max-age=30"},
		{impl.Cc{NoStore: true, NoCache: true, Private: true, Must: true}, "no-store, no-cache, private, must-revalidate"},
		{impl.Cc{NoStore: true, NoCache: true, Private: true, Must: true, HasAge: true, Age: 12}, "no-store, no-cache, private, must-revalidate, max-age=12"},
		{impl.Cc{HasAge: true, Age: -1}, ""},
		{impl.Cc{HasAge: true, Age: impl.MaxTime + 1}, ""},
		{impl.Cc{NoStore: true, HasAge: true, Age: -1}, ""},
		{impl.Cc{Must: true, HasAge: true, Age: impl.MaxTime + 1}, ""},
		{impl.Cc{Age: 5}, ""},
		{impl.Cc{Age: -1}, ""},
		{impl.Cc{Private: true, Age: 5}, "private"},
		{impl.Cc{Private: true, Age: impl.MaxTime + 1}, "private"},
	} {
		if got := impl.CcText(c.cc); got != c.want {
			t.Errorf("CcText(%#v) = %q, not %q", c.cc, got, c.want)
		}
	}
}

func TestCcTextOfEverySet(t *testing.T) {
	for _, c := range rightCcs() {
		for _, age := range append(oddAges(), c.Age) {
			for _, hasAge := range []bool{false, true} {
				c.Age, c.HasAge = age, hasAge
				if got, want := impl.CcText(c), ccTextByHand(c); got != want {
					t.Fatalf("CcText(%#v) = %q, not %q", c, got, want)
				}
			}
		}
	}
}

func TestCcOf(t *testing.T) {
	for _, c := range []struct {
		list []impl.Field
		want impl.Cc
	}{
		{nil, impl.Cc{}},
		{[]impl.Field{}, impl.Cc{}},
		{fieldsOf("a", "1"), impl.Cc{}},
		{fieldsOf("vary", "no-store", "no-store", "no-store", "max-age", "5", "max-age=5", "max-age=5"), impl.Cc{}},
		{fieldsOf("cache-control", ""), impl.Cc{}},
		{fieldsOf("cache-control", "x"), impl.Cc{}},
		{fieldsOf("cache-control", "no-store"), impl.Cc{NoStore: true}},
		{fieldsOf("cache-control", "Private, MAX-AGE=5"), impl.Cc{Private: true, HasAge: true, Age: 5}},
		{fieldsOf("cache-control", " max-age=05 "), impl.Cc{HasAge: true}},
		{fieldsOf("a", "no-store", "cache-control", "no-cache", "b", "private"), impl.Cc{NoCache: true}},
		{append(manyFields(7), fieldsOf("cache-control", "must-revalidate")...), impl.Cc{Must: true}},
		{append(manyFields(40), fieldsOf("cache-control", "must-revalidate")...), impl.Cc{Must: true}},
		{fieldsOf("cache-control", "max-age=9", "cache-control", "max-age=5, no-store"), impl.Cc{HasAge: true, Age: 9}},
		{fieldsOf("cache-control", "x", "cache-control", "no-store"), impl.Cc{}},
		{fieldsOf("cache-control", "", "cache-control", "no-store"), impl.Cc{}},
		{fieldsOf("Cache-Control", "no-store"), impl.Cc{}},
		{fieldsOf("CACHE-CONTROL", "no-store", "cache-control", "private"), impl.Cc{Private: true}},
		{fieldsOf("cache-control ", "no-store", " cache-control", "no-store", "cache-contro", "no-store", "cache-controls", "no-store", "cache_control", "no-store"), impl.Cc{}},
		{fieldsOf("", "no-store", "\xff", "\xfe", "cache-control", "no-cache,\xff"), impl.Cc{NoCache: true}},
		{fieldsOf("content-length", "1", "cache-control", strings.Repeat("x,", 100)+"private"), impl.Cc{Private: true}},
	} {
		if got := impl.CcOf(c.list); got != c.want {
			t.Errorf("CcOf(%q) = %#v, not %#v", c.list, got, c.want)
		}
	}
}

func controlLists() [][]impl.Field {
	names := []string{"cache-control", "Cache-Control", "a"}
	return append(allLists(), fieldLists(names, []string{"no-store", "max-age=7, private", "max-age=x", ""}, 3)...)
}

func TestCcOfIsAsGetFindsIt(t *testing.T) {
	for _, list := range controlLists() {
		var want impl.Cc
		if at := indexOfName(list, "cache-control"); at >= 0 {
			want = ccByHand(list[at].Value)
		}
		if got := impl.CcOf(list); got != want {
			t.Fatalf("CcOf(%q) = %#v, not %#v", list, got, want)
		}
	}
	for _, s := range oddTexts() {
		if got, want := impl.CcOf(fieldsOf(s, "no-store", "cache-control", s)), ccByHand(s); got != want {
			t.Fatalf("CcOf of the value %q = %#v", s, got)
		}
	}
}

func TestControlWritesIntoNothing(t *testing.T) {
	for _, list := range controlLists() {
		front, whole := withRoom(list)
		before := slices.Clone(whole)
		got := impl.CcOf(front)
		if !slices.Equal(whole, before) {
			t.Fatalf("%q was written into, or its room: %q", list, whole)
		}
		for i := range whole {
			whole[i] = impl.Field{Name: "cache-control", Value: "no-store"}
		}
		if again := impl.CcOf(list); got != again {
			t.Fatalf("CcOf(%q) = %#v, and then %#v", list, got, again)
		}
	}
}

func TestControlTextsAreNewMemory(t *testing.T) {
	for _, value := range []string{"no-store", "no-cache", "private", "must-revalidate", "max-age=5", "no-store, private, max-age=5"} {
		argument := strings.Clone(value)
		for _, c := range []impl.Cc{impl.CcRead(argument), impl.CcOf(fieldsOf("cache-control", argument))} {
			if text := impl.CcText(c); text != value || shares(text, argument) {
				t.Errorf("CcText of what %q says is %q, or shares its memory", value, text)
			}
		}
	}
}

func TestPromise6WhatIsSaidIsReadAsItWas(t *testing.T) {
	for _, c := range rightCcs() {
		text := impl.CcText(c)
		checkCc(t, text, c)
		checkCc(t, strings.ToUpper(text), c)
		if got := impl.CcOf(impl.Put(fieldsOf("a", "1"), "cache-control", text)); got != c {
			t.Fatalf("CcOf of %q = %#v, not %#v", text, got, c)
		}
		if text != "" && !impl.FieldsOk(fieldsOf("cache-control", text)) && len(text) <= impl.MaxText {
			t.Fatalf("%q is no value of a field", text)
		}
	}
	for age := range 5000 {
		for _, c := range []impl.Cc{{HasAge: true, Age: age}, {NoCache: true, HasAge: true, Age: impl.MaxTime - age}} {
			checkCc(t, impl.CcText(c), c)
		}
	}
}

// Whatever is read is right, so that its text is read as it was too.
func TestPromise6WhatIsReadIsRight(t *testing.T) {
	for _, s := range oddTexts() {
		for _, value := range []string{s, "max-age=" + s, "private," + s, "max-age=3,max-age=" + s} {
			c := impl.CcRead(value)
			if c.Age < 0 || c.Age > impl.MaxTime || !c.HasAge && c.Age != 0 {
				t.Fatalf("CcRead(%q) = %#v", value, c)
			}
			checkCc(t, impl.CcText(c), c)
		}
	}
}

func TestPromise6TheLeastLifeCounts(t *testing.T) {
	lives := []int{0, 1, 2, 9, 10, 100, 999999, impl.MaxTime}
	for _, a := range lives {
		for _, b := range lives {
			for _, c := range lives {
				texts := []string{impl.CcText(impl.Cc{HasAge: true, Age: a}), impl.CcText(impl.Cc{Private: true, HasAge: true, Age: b}), impl.CcText(impl.Cc{HasAge: true, Age: c})}
				checkCc(t, strings.Join(texts, ", "), impl.Cc{Private: true, HasAge: true, Age: min(a, b, c)})
				checkCc(t, strings.Join(append(texts, "max-age=none"), ","), impl.Cc{Private: true, HasAge: true})
			}
		}
	}
}
