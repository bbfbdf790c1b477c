package tests

import (
	"slices"
	"strconv"
	"strings"
	"testing"

	"loop.example/g00239/impl"
)

// textLists tells every list of at most most of these texts, in every order,
// nil too.
func textLists(texts []string, most int) [][]string {
	all := [][]string{nil}
	from := 0
	for range most {
		to := len(all)
		for _, head := range all[from:to] {
			for _, text := range texts {
				all = append(all, append(slices.Clone(head), text))
			}
		}
		from = to
	}
	return all
}

func varyByHand(list []impl.Field) []string {
	at := indexOfName(list, "vary")
	if at < 0 {
		return nil
	}
	var names []string
	for _, word := range splitByLibrary(list[at].Value) {
		names = append(names, lowerByBytes(word))
	}
	return names
}

func valuesByHand(names []string, list []impl.Field) []string {
	var values []string
	for _, name := range names {
		value := "-"
		if at := indexOfName(list, name); at >= 0 {
			value = list[at].Value
		}
		values = append(values, value)
	}
	return values
}

func suitsByHand(names, values []string, list []impl.Field) bool {
	return !slices.Contains(names, "*") && slices.Equal(values, valuesByHand(names, list))
}

func checkVary(t *testing.T, list []impl.Field, want []string) {
	t.Helper()
	if got := impl.VaryOf(list); !slices.Equal(got, want) {
		t.Fatalf("VaryOf(%q) = %q, not %q", list, got, want)
	}
}

func checkValues(t *testing.T, names []string, list []impl.Field, want []string) {
	t.Helper()
	if got := impl.ValuesOf(names, list); !slices.Equal(got, want) {
		t.Fatalf("ValuesOf(%q, %q) = %q, not %q", names, list, got, want)
	}
}

func checkSuits(t *testing.T, names, values []string, list []impl.Field, want bool) {
	t.Helper()
	if got := impl.Suits(names, values, list); got != want {
		t.Fatalf("Suits(%q, %q, %q) = %v", names, values, list, got)
	}
}

func TestVaryOf(t *testing.T) {
	for value, want := range map[string][]string{
		"": nil, " ": nil, "    ": nil, ",": nil, ",,,": nil, " , ,, ": nil, ", ": nil,
		"lang": {"lang"}, " lang": {"lang"}, "lang ": {"lang"}, "  lang  ": {"lang"}, ",lang": {"lang"}, "lang,": {"lang"}, " , lang , ": {"lang"},
		"lang,kind": {"lang", "kind"}, "kind,lang": {"kind", "lang"}, "lang, kind": {"lang", "kind"}, "lang ,kind": {"lang", "kind"}, "  lang  ,  kind  ": {"lang", "kind"},
		"lang,,kind": {"lang", "kind"}, "lang, ,kind": {"lang", "kind"}, ",,lang,, ,kind,,": {"lang", "kind"}, "c,a,b": {"c", "a", "b"}, "a,b,c,d,e,f": {"a", "b", "c", "d", "e", "f"},
		"lang,lang": {"lang", "lang"}, "a,b,a": {"a", "b", "a"}, "a,A": {"a", "a"}, "Lang,lang,LANG": {"lang", "lang", "lang"},
		"Lang": {"lang"}, "LANG": {"lang"}, "lAnG, KIND": {"lang", "kind"}, "AZ": {"az"}, "@[`{": {"@[`{"}, "A-9_Z": {"a-9_z"},
		"*": {"*"}, " * ": {"*"}, "*,*": {"*", "*"}, "*,lang": {"*", "lang"}, "lang,*": {"lang", "*"}, "lang, * ,kind": {"lang", "*", "kind"}, "**": {"**"}, "*a": {"*a"}, "a*": {"a*"}, "* *": {"* *"},
		"a b": {"a b"}, " a  b ": {"a  b"}, "a;b": {"a;b"}, "a: b": {"a: b"}, "\ta\t": {"\ta\t"}, "a\r\n,b": {"a\r\n", "b"}, "-": {"-"}, "vary": {"vary"}, "\"A,B\"": {"\"a", "b\""},
		"\xff": {"\xff"}, "A\xffB": {"a\xffb"}, "\xc3A,\xc3": {"\xc3a", "\xc3"}, "\x00": {"\x00"}, "\u00c4": {"\u00c4"}, "\u212a,K": {"\u212a", "k"}, "\u0130": {"\u0130"}, "\u0410": {"\u0410"}, "\uff0c": {"\uff0c"}, "\u00a0": {"\u00a0"}, "\u00a0A\u00a0": {"\u00a0a\u00a0"}, "\xe2\x82,\xac": {"\xe2\x82", "\xac"},
	} {
		checkVary(t, fieldsOf("vary", value), want)
		checkVary(t, fieldsOf("a", "x", "vary", value, "b", "y"), want)
	}
}

func TestVaryOfIsAsGetFindsIt(t *testing.T) {
	for _, c := range []struct {
		list []impl.Field
		want []string
	}{
		{nil, nil}, {[]impl.Field{}, nil}, {fieldsOf("lang", "de"), nil}, {fieldsOf("x", "vary"), nil}, {fieldsOf("", "lang"), nil},
		{fieldsOf("Vary", "lang"), nil}, {fieldsOf("VARY", "lang"), nil}, {fieldsOf("varY", "lang"), nil}, {fieldsOf("Vary", "lang", "vary", "kind"), []string{"kind"}}, {fieldsOf("vary", "kind", "Vary", "lang"), []string{"kind"}},
		{fieldsOf("vary", "a", "vary", "b"), []string{"a"}}, {fieldsOf("vary", "b", "vary", "a"), []string{"b"}}, {fieldsOf("vary", "", "vary", "b"), nil}, {fieldsOf("vary", "a", "x", "y", "vary", "*"), []string{"a"}}, {fieldsOf("vary", " , ", "vary", "*"), nil},
		{fieldsOf(" vary", "a", "vary ", "b", "var", "c", "varys", "d", "vary:", "e", "-vary", "f"), nil}, {fieldsOf("vary\x00", "a", "\xffvary", "b"), nil},
		{append(manyFields(impl.MaxFields), fieldsOf("vary", "a")...), []string{"a"}}, {append(manyFields(90), fieldsOf("vary", "a")...), []string{"a"}}, {fieldsOf("\xff", "a", "vary", "b"), []string{"b"}},
	} {
		checkVary(t, c.list, c.want)
	}
	for _, list := range varyLists() {
		checkVary(t, list, varyByHand(list))
	}
}

// varyLists tells lists of which many are not right, and many say vary.
func varyLists() [][]impl.Field {
	lists := fieldLists([]string{"vary", "Vary", "a"}, []string{"", "a", "A,*", " , b,,B "}, 3)
	return append(lists, allLists()...)
}

func TestVaryOfAllValues(t *testing.T) {
	for _, value := range textsOf([]string{"a", "B", ",", " ", "*"}, 6) {
		list := fieldsOf("vary", value)
		checkVary(t, list, varyByHand(list))
	}
}

func TestVaryOfAnyBytes(t *testing.T) {
	for _, s := range oddTexts() {
		for _, list := range [][]impl.Field{fieldsOf("vary", s), fieldsOf(s, "a", "vary", "B"), fieldsOf("vary", "Lang,"+s+",*"), fieldsOf("vary"+s, "a"), fieldsOf(s+"vary", "a")} {
			checkVary(t, list, varyByHand(list))
		}
	}
}

func TestVaryOfLongValues(t *testing.T) {
	for _, n := range []int{4, 5, 60, 5000} {
		checkVary(t, fieldsOf("vary", strings.Repeat(" Lang ,,", n)), slices.Repeat([]string{"lang"}, n))
		checkVary(t, fieldsOf("vary", strings.Repeat("Q", n)), []string{strings.Repeat("q", n)})
		checkVary(t, fieldsOf("vary", strings.Repeat(", ", n)), nil)
	}
}

func TestValuesOf(t *testing.T) {
	said := fieldsOf("lang", "de", "kind", "text", "empty", "", "dash", "-")
	for _, c := range []struct {
		names []string
		list  []impl.Field
		want  []string
	}{
		{nil, nil, nil}, {nil, said, nil}, {[]string{}, said, nil}, {[]string{"lang"}, nil, []string{"-"}}, {[]string{"lang", "kind", "lang"}, []impl.Field{}, []string{"-", "-", "-"}},
		{[]string{"lang"}, said, []string{"de"}}, {[]string{"kind"}, said, []string{"text"}}, {[]string{"none"}, said, []string{"-"}}, {[]string{"empty"}, said, []string{""}}, {[]string{"dash"}, said, []string{"-"}},
		{[]string{"lang", "kind"}, said, []string{"de", "text"}}, {[]string{"kind", "lang"}, said, []string{"text", "de"}}, {[]string{"dash", "none", "empty", "kind", "lang"}, said, []string{"-", "-", "", "text", "de"}},
		{[]string{"none", "lang"}, said, []string{"-", "de"}}, {[]string{"lang", "none"}, said, []string{"de", "-"}}, {[]string{"none", "nor"}, said, []string{"-", "-"}},
		{[]string{"lang", "lang"}, said, []string{"de", "de"}}, {[]string{"lang", "kind", "lang"}, said, []string{"de", "text", "de"}}, {[]string{"none", "none"}, said, []string{"-", "-"}}, {[]string{"empty", "empty"}, said, []string{"", ""}},
		{[]string{"Lang"}, said, []string{"-"}}, {[]string{"LANG", "lang"}, said, []string{"-", "de"}}, {[]string{"lang"}, fieldsOf("Lang", "de"), []string{"-"}}, {[]string{"Lang"}, fieldsOf("Lang", "de"), []string{"de"}}, {[]string{"Lang", "lang"}, fieldsOf("lang", "a", "Lang", "b"), []string{"b", "a"}},
		{[]string{""}, said, []string{"-"}}, {[]string{""}, fieldsOf("", "x"), []string{"x"}}, {[]string{""}, fieldsOf("", ""), []string{""}}, {[]string{"", "a", ""}, fieldsOf("a", "x"), []string{"-", "x", "-"}},
		{[]string{"*"}, said, []string{"-"}}, {[]string{"*"}, fieldsOf("*", "x"), []string{"x"}}, {[]string{"-"}, said, []string{"-"}}, {[]string{"-"}, fieldsOf("-", "x"), []string{"x"}}, {[]string{"de", "text"}, said, []string{"-", "-"}},
		{[]string{" lang", "lang ", "lan", "langs"}, said, []string{"-", "-", "-", "-"}}, {[]string{"lang,kind"}, said, []string{"-"}}, {[]string{"lang"}, fieldsOf("lang", " De ,x "), []string{" De ,x "}}, {[]string{"lang"}, fieldsOf("lang", "\xff\r\n"), []string{"\xff\r\n"}},
		{[]string{"lang"}, fieldsOf("lang", "de", "lang", "en"), []string{"de"}}, {[]string{"lang", "lang"}, fieldsOf("lang", "en", "lang", "de"), []string{"en", "en"}}, {[]string{"lang"}, fieldsOf("lang", "", "lang", "de"), []string{""}}, {[]string{"lang"}, fieldsOf("lang", "-", "lang", "de"), []string{"-"}},
		{[]string{"\xff", "\xfe", "\xef\xbf\xbd"}, fieldsOf("\xfe", "a", "\xef\xbf\xbd", "b"), []string{"-", "a", "b"}}, {[]string{"\u00e4", "\u00c4"}, fieldsOf("\u00e4", "x"), []string{"x", "-"}}, {[]string{"k", "\u212a"}, fieldsOf("k", "x"), []string{"x", "-"}},
		{[]string{"n7", "n8", "n89"}, manyFields(90), []string{"v7", "v8", "v89"}}, {[]string{"vary"}, fieldsOf("vary", "lang", "lang", "de"), []string{"lang"}},
	} {
		checkValues(t, c.names, c.list, c.want)
	}
}

func TestValuesOfAllNamesAndLists(t *testing.T) {
	names := textLists([]string{"a", "b", "", "A", "*", "\xff"}, 3)
	names = append(names, askedNames())
	for _, list := range append(allLists(), fieldLists([]string{"a", "b", "*"}, []string{"", "-", "x"}, 3)...) {
		for _, some := range names {
			checkValues(t, some, list, valuesByHand(some, list))
		}
	}
}

func TestValuesOfAnyBytes(t *testing.T) {
	for _, s := range oddTexts() {
		checkValues(t, []string{s, "lang", s, s + "x"}, fieldsOf(s, "de"), []string{"de", "-", "de", "-"})
		checkValues(t, []string{"lang", s + "x"}, fieldsOf("kind", "text", "lang", s), []string{s, "-"})
		checkValues(t, []string{s + "x", "x" + s}, fieldsOf(s, "de"), []string{"-", "-"})
	}
}

func TestAsManyValuesAsNames(t *testing.T) {
	for _, n := range []int{0, 1, 2, 3, 4, 5, 8, 9, 300, 5000} {
		var names, want []string
		for i := range n {
			names, want = append(names, "n"+strconv.Itoa(i%12)), append(want, "v"+strconv.Itoa(i%12))
		}
		checkValues(t, names, manyFields(12), want)
		checkValues(t, names, fieldsOf("x", "y"), slices.Repeat([]string{"-"}, n))
		checkSuits(t, names, want, manyFields(12), true)
	}
}

func TestSuits(t *testing.T) {
	said := fieldsOf("lang", "de", "kind", "text", "empty", "", "dash", "-")
	for _, c := range []struct {
		names, values []string
		list          []impl.Field
		want          bool
	}{
		{nil, nil, nil, true}, {nil, []string{}, said, true}, {[]string{}, nil, said, true}, {[]string{}, []string{}, []impl.Field{}, true},
		{nil, []string{""}, said, false}, {nil, []string{"-"}, nil, false}, {[]string{"lang"}, nil, said, false}, {[]string{"lang"}, []string{}, nil, false}, {[]string{""}, nil, nil, false},
		{[]string{"lang"}, []string{"de"}, said, true}, {[]string{"lang"}, []string{"en"}, said, false}, {[]string{"lang"}, []string{"De"}, said, false}, {[]string{"lang"}, []string{"de "}, said, false}, {[]string{"lang"}, []string{"d"}, said, false}, {[]string{"lang"}, []string{""}, said, false}, {[]string{"lang"}, []string{"-"}, said, false},
		{[]string{"lang", "kind"}, []string{"de", "text"}, said, true}, {[]string{"lang", "kind"}, []string{"text", "de"}, said, false}, {[]string{"kind", "lang"}, []string{"text", "de"}, said, true}, {[]string{"lang", "lang"}, []string{"de", "de"}, said, true}, {[]string{"lang", "lang"}, []string{"de", "en"}, said, false}, {[]string{"lang", "lang"}, []string{"de"}, said, false},
		{[]string{"none"}, []string{"-"}, said, true}, {[]string{"none"}, []string{""}, said, false}, {[]string{"none"}, []string{"none"}, said, false}, {[]string{"none"}, nil, said, false}, {[]string{"none"}, []string{"-"}, nil, true}, {[]string{"none"}, []string{""}, nil, false},
		{[]string{"empty"}, []string{""}, said, true}, {[]string{"empty"}, []string{"-"}, said, false}, {[]string{"dash"}, []string{"-"}, said, true}, {[]string{"dash"}, []string{""}, said, false},
		{[]string{"lang", "none", "kind"}, []string{"de", "-", "text"}, said, true}, {[]string{"lang", "none", "kind"}, []string{"de", "text"}, said, false}, {[]string{"lang", "none", "kind"}, []string{"de", "", "text"}, said, false},
		{[]string{"Lang"}, []string{"de"}, said, false}, {[]string{"Lang"}, []string{"-"}, said, true}, {[]string{"lang"}, []string{"de"}, fieldsOf("Lang", "de"), false}, {[]string{"lang"}, []string{"-"}, fieldsOf("Lang", "de"), true},
		{[]string{""}, []string{"-"}, said, true}, {[]string{""}, []string{"x"}, fieldsOf("", "x"), true}, {[]string{"\xff"}, []string{"-"}, fieldsOf("\xfe", "x"), true}, {[]string{"\xff"}, []string{"x"}, fieldsOf("\xfe", "x"), false}, {[]string{"lang"}, []string{"\xfe"}, fieldsOf("lang", "\xff"), false}, {[]string{"lang"}, []string{"\xef\xbf\xbd"}, fieldsOf("lang", "\xff"), false},
		{[]string{"lang"}, []string{"de"}, fieldsOf("lang", "de", "lang", "en"), true}, {[]string{"lang"}, []string{"en"}, fieldsOf("lang", "de", "lang", "en"), false}, {[]string{"lang"}, []string{"*"}, fieldsOf("lang", "*"), true}, {[]string{"lang"}, []string{"*"}, said, false}, {[]string{"-"}, []string{"-"}, said, true},
	} {
		checkSuits(t, c.names, c.values, c.list, c.want)
	}
}

func TestSuitsNobodyByAStar(t *testing.T) {
	said := fieldsOf("lang", "de", "*", "star", "kind", "text", "*a", "near")
	for _, names := range [][]string{
		{"*"}, {"*", "*"}, {"*", "lang"}, {"lang", "*"}, {"*", "lang", "kind"}, {"lang", "*", "kind"}, {"lang", "kind", "*"}, {"none", "*"}, {"*", "none"}, {"lang", "*", "*a"}, append(slices.Repeat([]string{"lang"}, 300), "*"),
	} {
		for _, list := range [][]impl.Field{said, nil, {}, fieldsOf("*", "-"), fieldsOf("*", ""), fieldsOf("*", "*"), fieldsOf("lang", "de")} {
			for _, values := range [][]string{valuesByHand(names, list), nil, {}, {"-"}, {"*"}, {""}, names, slices.Repeat([]string{"-"}, len(names)), make([]string, len(names)), valuesByHand(names[:len(names)-1], list)} {
				checkSuits(t, names, values, list, false)
			}
		}
	}
	for _, name := range []string{"*a", "**", "* ", " *", "a*", "*,", "*\x00", "\xff*", "*\xff", "\uff0a", "*/*", "-", ""} {
		checkSuits(t, []string{name}, []string{"-"}, nil, true)
		checkSuits(t, []string{"lang", name, "kind"}, []string{"de", "x", "text"}, fieldsOf("kind", "text", "lang", "de", name, "x"), true)
		checkSuits(t, []string{"lang", name, "kind"}, []string{"de", "-", "text"}, fieldsOf("kind", "text", "lang", "de", name, "x"), false)
	}
}

// turnedValues tells values that differ from these at one place, or are one
// too few, or one too many.
func turnedValues(values []string) [][]string {
	var all [][]string
	for at := range values {
		for _, value := range []string{"", "-", "other", values[at] + "x", values[at] + " ", strings.ToUpper(values[at]), "*"} {
			turned := slices.Clone(values)
			turned[at] = value
			all = append(all, turned)
		}
		all = append(all, slices.Delete(slices.Clone(values), at, at+1))
	}
	for at := range len(values) + 1 {
		for _, value := range []string{"", "-", "a"} {
			all = append(all, slices.Insert(slices.Clone(values), at, value))
		}
	}
	return append(all, nil, []string{})
}

func TestSuitsAtEachPlace(t *testing.T) {
	list := fieldsOf("a", "v", "b", "w", "c", "", "d", "-")
	for _, names := range textLists([]string{"a", "b", "c", "d", "none"}, 4) {
		values := valuesByHand(names, list)
		checkSuits(t, names, values, list, true)
		for _, turned := range turnedValues(values) {
			checkSuits(t, names, turned, list, slices.Equal(turned, values))
		}
	}
}

func TestSuitsOfAllNamesValuesAndLists(t *testing.T) {
	lists := append(fieldLists([]string{"a", "*", "A"}, []string{"", "-", "x"}, 2), manyFields(9), fieldsOf("\xff", "x", "a", "\xff"))
	for _, names := range textLists([]string{"a", "A", "*", ""}, 3) {
		for _, values := range textLists([]string{"x", "-", ""}, 3) {
			for _, list := range lists {
				checkSuits(t, names, values, list, suitsByHand(names, values, list))
			}
		}
	}
}

func TestSuitsOfAnyBytes(t *testing.T) {
	for _, s := range oddTexts() {
		names, list := []string{"lang", s, "kind"}, fieldsOf("kind", s, s, "de")
		checkSuits(t, names, []string{"-", "de", s}, list, s != "*")
		checkSuits(t, names, []string{"-", s, "de"}, list, s == "de")
		checkSuits(t, names, []string{"-", "de", s + "\x00"}, list, false)
		checkSuits(t, names, []string{s, "de", s}, list, s == "-")
	}
}

// longTexts tells the texts in front of a longer list, and the longer one, so
// that a write into the room behind them is seen.
func longTexts(texts []string) (front, whole []string) {
	whole = append(slices.Clone(texts), "room", "room", "room", "room")
	return whole[:len(texts):len(whole)], whole
}

func turnTexts(texts []string) {
	// Its spare room is the answer's own, too.
	texts = texts[:cap(texts)]
	for i := range texts {
		texts[i] = "turned"
	}
}

func TestVaryWritesIntoNothing(t *testing.T) {
	for _, list := range varyLists() {
		for _, names := range [][]string{nil, {}, {"a"}, {"Vary", "vary", "A", "*"}, {"b", "", "a", "a", "n0"}} {
			for _, values := range [][]string{nil, valuesByHand(names, list), {"x", "Y", "-"}} {
				fields, allFields := withRoom(list)
				some, allNames := longTexts(names)
				kept, allValues := longTexts(values)
				wasFields, wasNames, wasValues := slices.Clone(allFields), slices.Clone(allNames), slices.Clone(allValues)
				turnTexts(impl.VaryOf(fields))
				turnTexts(impl.ValuesOf(some, fields))
				impl.Suits(some, kept, fields)
				if !slices.Equal(allFields, wasFields) || !slices.Equal(allNames, wasNames) || !slices.Equal(allValues, wasValues) {
					t.Fatalf("%q, %q or %q was written into, or its room: %q, %q, %q", names, values, list, allNames, allValues, allFields)
				}
			}
		}
	}
}

func TestVaryAnswersStay(t *testing.T) {
	for _, list := range varyLists() {
		for _, asked := range [][]string{{}, {"a"}, {"vary", "A", "a", "*"}, {"n0", "", "a", "a", "b"}} {
			fields, whole := withRoom(list)
			names := slices.Clone(asked)
			vary, values := impl.VaryOf(fields), impl.ValuesOf(names, fields)
			suits := impl.Suits(names, values, fields)
			turnTexts(impl.VaryOf(fields))
			turnTexts(impl.ValuesOf(names, fields))
			turnTexts(names)
			turnAll(whole)
			impl.VaryOf(whole)
			impl.ValuesOf(names, whole)
			if !slices.Equal(vary, varyByHand(list)) || !slices.Equal(values, valuesByHand(asked, list)) {
				t.Fatalf("the answers for %q and %q turned: %q, %q", asked, list, vary, values)
			}
			// Nothing is kept of what was asked for ahead.
			checkVary(t, list, vary)
			checkValues(t, asked, list, values)
			checkSuits(t, asked, values, list, suits)
		}
	}
}

func TestVaryTextsAreNewMemory(t *testing.T) {
	for _, text := range []string{"lang", "Lang", " lang , kind ", "*", "-", "\xff,A"} {
		value, name, other := strings.Clone(text), strings.Clone("name"), strings.Clone("other")
		for _, answer := range slices.Concat(
			impl.VaryOf(fieldsOf("vary", value)),
			impl.ValuesOf([]string{name, other, value}, fieldsOf(name, value, "x", other)),
			impl.ValuesOf([]string{value, name}, fieldsOf(value, other)),
		) {
			if sharesAny(fieldsOf(answer, answer), value, name, other) {
				t.Errorf("the answer %q shares memory with an argument", answer)
			}
		}
	}
}

func checkPromise8(t *testing.T, names []string, list []impl.Field) {
	t.Helper()
	values := impl.ValuesOf(names, list)
	checkSuits(t, names, values, list, !slices.Contains(names, "*"))
	checkSuits(t, names, values, append(slices.Clone(list), fieldsOf("one", "more")...), !slices.Contains(names, "*") && !slices.Contains(names, "one"))
}

func TestPromise8AnAnswerSuitsWhoeverAsksAsItWasAsked(t *testing.T) {
	lists := append(varyLists(), fieldLists([]string{"a", "b", "*"}, []string{"", "-", "x"}, 3)...)
	for _, names := range append(textLists([]string{"a", "b", "*", ""}, 3), askedNames(), []string{"*a", "A", "vary"}) {
		for _, list := range lists {
			checkPromise8(t, names, list)
		}
	}
}

func TestPromise8OfAnyBytes(t *testing.T) {
	for _, s := range oddTexts() {
		for _, list := range [][]impl.Field{nil, fieldsOf(s, s), fieldsOf("lang", s), fieldsOf(s, "de", "lang", "-")} {
			checkPromise8(t, []string{s}, list)
			checkPromise8(t, []string{"lang", s, "none"}, list)
		}
	}
}

// What an answer says of itself are names, too, and it suits alike lists only.
func TestPromise8WithTheNamesOfAnAnswer(t *testing.T) {
	asking := fieldLists([]string{"lang", "kind", "Lang"}, []string{"de", "-", ""}, 2)
	for _, value := range []string{"", "lang", "Lang", "LANG, Kind", "kind,lang,lang", "*", "lang,*", "* ,lang", "*lang", " ,, none ,"} {
		names := impl.VaryOf(fieldsOf("cache-control", "max-age=5", "vary", value))
		for _, asked := range asking {
			checkPromise8(t, names, asked)
			values := impl.ValuesOf(names, asked)
			for _, other := range asking {
				checkSuits(t, names, values, other, suitsByHand(names, values, other))
			}
		}
	}
}
