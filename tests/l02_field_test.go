package tests

import (
	"slices"
	"strconv"
	"strings"
	"testing"

	"loop.example/g00239/impl"
)

// fieldsOf tells a list by names and values in turn.
func fieldsOf(words ...string) []impl.Field {
	var list []impl.Field
	for i := 0; i+1 < len(words); i += 2 {
		list = append(list, impl.Field{Name: words[i], Value: words[i+1]})
	}
	return list
}

func manyFields(n int) []impl.Field {
	var list []impl.Field
	for i := range n {
		list = append(list, impl.Field{Name: "n" + strconv.Itoa(i), Value: "v" + strconv.Itoa(i)})
	}
	return list
}

// fieldLists tells every list of at most most fields of these names and
// values.
func fieldLists(names, values []string, most int) [][]impl.Field {
	all := [][]impl.Field{nil}
	from := 0
	for range most {
		to := len(all)
		for _, head := range all[from:to] {
			for _, name := range names {
				for _, value := range values {
					all = append(all, append(slices.Clone(head), impl.Field{Name: name, Value: value}))
				}
			}
		}
		from = to
	}
	return all
}

// rightLists tells lists of 0 to MaxFields fields that are all right.
func rightLists() [][]impl.Field {
	lists := [][]impl.Field{
		{},
		fieldsOf("content-lengt", "1", "content-lengths", "1", "content", "1"),
		fieldsOf("-", "content-length", "0", "-"),
		fieldsOf("a", "x", "aa", "x", "aaa", "x"),
		fieldsOf(strings.Repeat("z", 20), strings.Repeat("~", impl.MaxText)),
	}
	for n := range impl.MaxFields + 1 {
		lists = append(lists, manyFields(n))
	}
	return lists
}

// oddLists tells lists of which most are not right: of too many fields, of
// names that stand several times, of texts of any bytes.
func oddLists() [][]impl.Field {
	lists := [][]impl.Field{
		manyFields(impl.MaxFields + 1),
		manyFields(300),
		fieldsOf("content-length", "1"),
		fieldsOf("a", "1", "content-length", "1"),
		fieldsOf("", "", "", "x", "A", " ", "a", "\r\n"),
		fieldsOf("\xff", "\xfe", "\u00e4", "\u00e4", "\xef\xbf\xbd", "\xc3"),
		fieldsOf(strings.Repeat("a", 21), "x", "b", strings.Repeat("x", impl.MaxText+1)),
	}
	lists = append(lists, fieldLists([]string{"a", "b", ""}, []string{"1", "2"}, 4)...)
	return append(lists, fieldLists([]string{"a", "A", "\xff", "\xfe"}, []string{"", "a", "\xc3"}, 2)...)
}

func allLists() [][]impl.Field { return append(rightLists(), oddLists()...) }

func askedNames() []string {
	return []string{"a", "b", "c", "A", "", " a", "a ", "n0", "n1", "n7", "n8", "content-length", "\xff", "\xfe", "\xef\xbf\xbd", "\u00e4", strings.Repeat("a", 21)}
}

func indexOfName(list []impl.Field, name string) int {
	return slices.IndexFunc(list, func(f impl.Field) bool { return f.Name == name })
}

func TestFieldsOk(t *testing.T) {
	for _, list := range append(rightLists(), nil) {
		if !impl.FieldsOk(list) {
			t.Errorf("FieldsOk(%q) is false", list)
		}
	}
	for _, list := range [][]impl.Field{
		fieldsOf("", "x"), fieldsOf("a", ""), fieldsOf("", ""), fieldsOf("A", "x"), fieldsOf("a b", "x"), fieldsOf("a:", "x"), fieldsOf(" a", "x"),
		fieldsOf("a", " x"), fieldsOf("a", "x "), fieldsOf("a", " "), fieldsOf("a", "x\r\n"), fieldsOf("a", "\x7f"), fieldsOf("a", "\x1f"),
		fieldsOf("\u00e4", "x"), fieldsOf("a", "\u00e4"), fieldsOf("a\xff", "x"), fieldsOf("a", "x\xffx"), fieldsOf("a", "x\x00"),
		fieldsOf("content-length", "1"), fieldsOf("a", "1", "content-length", "7"), fieldsOf("content-length", "7", "a", "1"),
		fieldsOf("a", "1", "a", "1"), fieldsOf("a", "1", "a", "2"), fieldsOf("a", "1", "b", "1", "a", "2"), fieldsOf("b", "1", "a", "1", "a", "2"),
		fieldsOf("a", "1", "b", ""), fieldsOf("a", "1", "B", "1"), fieldsOf("a", "1", "b", "2", "c", " "),
	} {
		if impl.FieldsOk(list) {
			t.Errorf("FieldsOk(%q) is true", list)
		}
	}
}

func TestFieldsOkLimits(t *testing.T) {
	if impl.MaxFields != 8 {
		t.Error("MaxFields", impl.MaxFields)
	}
	for n := range 40 {
		if got := impl.FieldsOk(manyFields(n)); got != (n <= impl.MaxFields) {
			t.Errorf("FieldsOk of %d fields = %v", n, got)
		}
		if got := impl.FieldsOk(fieldsOf(strings.Repeat("a", n), "x")); got != (1 <= n && n <= 20) {
			t.Errorf("FieldsOk of a name of %d bytes = %v", n, got)
		}
	}
	for n := range 2 * impl.MaxText {
		if got := impl.FieldsOk(fieldsOf("a", strings.Repeat("x", n))); got != (1 <= n && n <= impl.MaxText) {
			t.Errorf("FieldsOk of a value of %d bytes = %v", n, got)
		}
	}
}

// One wrong field makes a list wrong at whichever place it stands, also when
// there are as many as may be.
func TestFieldsOkAtEachPlace(t *testing.T) {
	for at := range impl.MaxFields {
		for _, wrong := range fieldsOf("", "x", "content-length", "1", "a", "", "a", " x", "A", "x", strings.Repeat("a", 21), "x", "a", strings.Repeat("x", impl.MaxText+1)) {
			list := manyFields(impl.MaxFields)
			list[at] = wrong
			if impl.FieldsOk(list) {
				t.Errorf("FieldsOk(%q) is true", list)
			}
		}
		for other := range impl.MaxFields {
			list := manyFields(impl.MaxFields)
			list[at].Name = list[other].Name
			if got := impl.FieldsOk(list); got != (at == other) {
				t.Errorf("FieldsOk(%q) = %v", list, got)
			}
			list = manyFields(impl.MaxFields)
			list[at].Value = list[other].Value
			if !impl.FieldsOk(list) {
				t.Errorf("FieldsOk(%q) is false, though only a value stands twice", list)
			}
		}
	}
}

func TestFieldsOkOfAnyBytes(t *testing.T) {
	for _, s := range oddTexts() {
		if got, want := impl.FieldsOk(fieldsOf(s, "x")), impl.TokenOk(s); got != want {
			t.Fatalf("FieldsOk of the name %q = %v", s, got)
		}
		if got, want := impl.FieldsOk(fieldsOf("a", s)), impl.ValueOk(s); got != want {
			t.Fatalf("FieldsOk of the value %q = %v", s, got)
		}
	}
}

func TestGet(t *testing.T) {
	list := fieldsOf("a", "1", "b", "2", "a", "3", "", "none", "e", "")
	for _, c := range []struct {
		name, want string
		ok         bool
	}{
		{"a", "1", true}, {"b", "2", true}, {"", "none", true}, {"e", "", true},
		{"c", "", false}, {"A", "", false}, {"a ", "", false}, {"aa", "", false}, {"1", "", false}, {"\xff", "", false},
	} {
		if got, ok := impl.Get(list, c.name); got != c.want || ok != c.ok {
			t.Errorf("Get(%q) = %q, %v", c.name, got, ok)
		}
	}
	for _, list := range [][]impl.Field{nil, {}} {
		for _, name := range askedNames() {
			if got, ok := impl.Get(list, name); got != "" || ok {
				t.Errorf("Get of nothing, %q = %q, %v", name, got, ok)
			}
		}
	}
}

func TestGetOfAllLists(t *testing.T) {
	for _, list := range allLists() {
		for _, name := range askedNames() {
			want := ""
			at := indexOfName(list, name)
			if at >= 0 {
				want = list[at].Value
			}
			if got, ok := impl.Get(list, name); got != want || ok != (at >= 0) {
				t.Fatalf("Get(%q, %q) = %q, %v", list, name, got, ok)
			}
		}
	}
}

func TestGetOfAnyBytes(t *testing.T) {
	for _, s := range oddTexts() {
		if got, ok := impl.Get(fieldsOf(s+"x", "0", s, s, s, "2"), s); got != s || !ok {
			t.Fatalf("Get of %q = %q, %v", s, got, ok)
		}
	}
}

func TestPut(t *testing.T) {
	for _, c := range []struct {
		list        []impl.Field
		name, value string
		want        []impl.Field
	}{
		{nil, "a", "1", fieldsOf("a", "1")},
		{[]impl.Field{}, "", "", fieldsOf("", "")},
		{fieldsOf("a", "1"), "a", "2", fieldsOf("a", "2")},
		{fieldsOf("a", "1"), "a", "", fieldsOf("a", "")},
		{fieldsOf("a", "1"), "A", "2", fieldsOf("a", "1", "A", "2")},
		{fieldsOf("a", "1", "b", "2"), "c", "3", fieldsOf("a", "1", "b", "2", "c", "3")},
		{fieldsOf("a", "1", "b", "2", "c", "3"), "b", "9", fieldsOf("a", "1", "b", "9", "c", "3")},
		{fieldsOf("b", "1", "a", "2", "b", "3"), "b", "9", fieldsOf("b", "9", "a", "2", "b", "3")},
		{fieldsOf("a", "1", "a", "1"), "a", "1", fieldsOf("a", "1", "a", "1")},
		{manyFields(8), "n8", "v8", manyFields(9)},
		{manyFields(20), "n20", "v20", manyFields(21)},
		{fieldsOf("a", "1"), "content-length", "2", fieldsOf("a", "1", "content-length", "2")},
		{fieldsOf("a", "1"), "\xff\x00", "\r\n", fieldsOf("a", "1", "\xff\x00", "\r\n")},
	} {
		if got := impl.Put(c.list, c.name, c.value); !slices.Equal(got, c.want) {
			t.Errorf("Put(%q, %q, %q) = %q", c.list, c.name, c.value, got)
		}
	}
}

func putByHand(list []impl.Field, name, value string) []impl.Field {
	out := slices.Clone(list)
	if at := indexOfName(list, name); at >= 0 {
		out[at].Value = value
		return out
	}
	return append(out, impl.Field{Name: name, Value: value})
}

func TestPutOfAllLists(t *testing.T) {
	for _, list := range allLists() {
		for _, name := range askedNames() {
			for _, value := range []string{"new", "", "\xff"} {
				if got, want := impl.Put(list, name, value), putByHand(list, name, value); !slices.Equal(got, want) {
					t.Fatalf("Put(%q, %q, %q) = %q", list, name, value, got)
				}
			}
		}
	}
}

func TestDrop(t *testing.T) {
	for _, c := range []struct {
		list []impl.Field
		name string
		want []impl.Field
	}{
		{nil, "a", nil},
		{[]impl.Field{}, "", nil},
		{fieldsOf("a", "1"), "a", nil},
		{fieldsOf("a", "1"), "A", fieldsOf("a", "1")},
		{fieldsOf("a", "1"), "", fieldsOf("a", "1")},
		{fieldsOf("a", "1"), "1", fieldsOf("a", "1")},
		{fieldsOf("a", "1", "b", "2", "c", "3"), "a", fieldsOf("b", "2", "c", "3")},
		{fieldsOf("a", "1", "b", "2", "c", "3"), "b", fieldsOf("a", "1", "c", "3")},
		{fieldsOf("a", "1", "b", "2", "c", "3"), "c", fieldsOf("a", "1", "b", "2")},
		{fieldsOf("b", "1", "a", "2", "b", "3"), "b", fieldsOf("a", "2", "b", "3")},
		{fieldsOf("a", "1", "a", "2", "a", "3"), "a", fieldsOf("a", "2", "a", "3")},
		{fieldsOf("", "1", "\xff", "2"), "\xff", fieldsOf("", "1")},
		{manyFields(21), "n20", manyFields(20)},
	} {
		if got := impl.Drop(c.list, c.name); !slices.Equal(got, c.want) {
			t.Errorf("Drop(%q, %q) = %q", c.list, c.name, got)
		}
	}
}

func dropByHand(list []impl.Field, name string) []impl.Field {
	at := indexOfName(list, name)
	if at < 0 {
		return slices.Clone(list)
	}
	return slices.Concat(list[:at], list[at+1:])
}

func TestDropOfAllLists(t *testing.T) {
	for _, list := range allLists() {
		for _, name := range askedNames() {
			if got, want := impl.Drop(list, name), dropByHand(list, name); !slices.Equal(got, want) {
				t.Fatalf("Drop(%q, %q) = %q", list, name, got)
			}
		}
	}
}

func TestFieldsText(t *testing.T) {
	for _, c := range []struct {
		list []impl.Field
		want string
	}{
		{nil, ""},
		{[]impl.Field{}, ""},
		{fieldsOf("a", "1"), "a: 1\r\n"},
		{fieldsOf("b", "2", "a", "x y"), "b: 2\r\na: x y\r\n"},
		{fieldsOf("a", "1", "a", "2"), "a: 1\r\na: 2\r\n"},
		{fieldsOf("", ""), ": \r\n"},
		{fieldsOf("content-length", "7"), "content-length: 7\r\n"},
		{fieldsOf("A\xff", " \r\n"), "A\xff:  \r\n\r\n"},
	} {
		if got := impl.FieldsText(c.list); got != c.want {
			t.Errorf("FieldsText(%q) = %q", c.list, got)
		}
	}
	for _, list := range allLists() {
		want := ""
		for _, f := range list {
			want += f.Name + ": " + f.Value + "\x0d\x0a"
		}
		if got := impl.FieldsText(list); got != want {
			t.Fatalf("FieldsText(%q) = %q", list, got)
		}
	}
}

var fillField = impl.Field{Name: "room", Value: "behind"}

// withRoom tells the list at the front of a longer one, and the longer one, so
// that a write into the room behind it is seen.
func withRoom(list []impl.Field) (front, whole []impl.Field) {
	whole = slices.Clone(list)
	for range 4 {
		whole = append(whole, fillField)
	}
	return whole[:len(list):len(whole)], whole
}

func TestFieldsAreNotWrittenInto(t *testing.T) {
	for _, list := range allLists() {
		for _, name := range askedNames() {
			front, whole := withRoom(list)
			before := slices.Clone(whole)
			impl.FieldsOk(front)
			impl.Get(front, name)
			impl.FieldsText(front)
			put := impl.Put(front, name, "new")
			dropped := impl.Drop(front, name)
			for _, answer := range [][]impl.Field{put, dropped} {
				// Its spare room is the answer's own, too.
				answer = answer[:cap(answer)]
				for i := range answer {
					answer[i] = impl.Field{Name: "turned", Value: "turned"}
				}
			}
			if !slices.Equal(whole, before) {
				t.Fatalf("%q was written into, or its room, at the name %q: %q", list, name, whole)
			}
		}
	}
}

func TestFieldAnswersStay(t *testing.T) {
	for _, list := range allLists() {
		for _, name := range askedNames() {
			_, whole := withRoom(list)
			front := whole[:len(list)]
			put := impl.Put(front, name, "new")
			dropped := impl.Drop(front, name)
			for i := range whole {
				whole[i] = impl.Field{Name: "turned", Value: "turned"}
			}
			if !slices.Equal(put, putByHand(list, name, "new")) || !slices.Equal(dropped, dropByHand(list, name)) {
				t.Fatalf("the answers for %q and %q turned with the list: %q, %q", list, name, put, dropped)
			}
		}
	}
}

// sharesAny tells whether a text of the list lies in one of these.
func sharesAny(list []impl.Field, arguments ...string) bool {
	for _, f := range list {
		for _, argument := range arguments {
			if shares(f.Name, argument) || shares(f.Value, argument) {
				return true
			}
		}
	}
	return false
}

func TestFieldTextsAreNewMemory(t *testing.T) {
	name, value, first, second := strings.Clone("name"), strings.Clone("value"), strings.Clone("first"), strings.Clone("second")
	list := fieldsOf(first, value, name, second)
	arguments := []string{name, value, first, second}
	for _, answer := range [][]impl.Field{
		impl.Put(list, name, value), impl.Put(list, value, name), impl.Put(nil, name, value), impl.Drop(list, name), impl.Drop(list, value),
	} {
		if sharesAny(answer, arguments...) {
			t.Errorf("the answer %q shares memory with an argument", answer)
		}
	}
	got, _ := impl.Get(list, name)
	if sharesAny(fieldsOf(got, impl.FieldsText(list)), arguments...) {
		t.Error("Get's or FieldsText's answer shares memory with an argument")
	}
}

func TestPromise2WhatIsPutIsGot(t *testing.T) {
	for _, list := range allLists() {
		for _, name := range askedNames() {
			for _, value := range []string{"new", "", "\xff", "1"} {
				put := impl.Put(list, name, value)
				if got, ok := impl.Get(put, name); got != value || !ok {
					t.Fatalf("Get of Put(%q, %q, %q) = %q, %v", list, name, value, got, ok)
				}
				for _, other := range askedNames() {
					was, wasThere := impl.Get(list, other)
					if got, there := impl.Get(put, other); other != name && (got != was || there != wasThere) {
						t.Fatalf("%q turned by Put(%q, %q, %q): %q, %v", other, list, name, value, got, there)
					}
				}
			}
		}
	}
}

func TestPromise2WhatIsPutIntoRightFieldsStaysRight(t *testing.T) {
	for _, list := range rightLists() {
		for _, f := range append(fieldsOf("a", "x", "n0", "x", "n7", "x", "new", "x"), list...) {
			put := impl.Put(list, f.Name, f.Value)
			if got := impl.FieldsOk(put); got != (len(put) <= impl.MaxFields) {
				t.Errorf("FieldsOk of Put(%q, %q) = %v", list, f, got)
			}
		}
	}
}

func TestPromise2WhatIsDroppedIsGotNoMore(t *testing.T) {
	for _, list := range rightLists() {
		names := askedNames()
		for _, f := range list {
			names = append(names, f.Name)
		}
		for _, name := range names {
			left := impl.Drop(list, name)
			if got, ok := impl.Get(left, name); got != "" || ok {
				t.Errorf("Get of Drop(%q, %q) = %q, %v", list, name, got, ok)
			}
			others := slices.DeleteFunc(slices.Clone(list), func(f impl.Field) bool { return f.Name == name })
			if !slices.Equal(left, others) || !impl.FieldsOk(left) {
				t.Errorf("Drop(%q, %q) leaves %q", list, name, left)
			}
		}
	}
}
