package tests

import (
	"fmt"
	"math"
	"runtime"
	"slices"
	"strconv"
	"strings"
	"sync"
	"testing"

	"loop.example/g00239/impl"
)

// farNumbers are far from all that anything here tells of, on both sides; some
// of them are small ones again when they are cut to fewer bits.
func farNumbers() []int {
	return []int{math.MinInt, math.MinInt + 1, -1 << 32, -1<<32 + 2, -1000001, -1000000, -257, -256, 256, 257, 258, 260, 1<<16 + 1, 1 << 32, 1<<32 + 1, 1<<32 + 4, math.MaxInt - 1, math.MaxInt}
}

func kindByHand(kind int) string {
	if kind < 1 || kind > 4 {
		return ""
	}
	return strings.Split("here,there,same,not", ",")[kind-1]
}

func numberByHandText(n int) string {
	if n < 0 || n > 1000000 {
		return ""
	}
	return fmt.Sprint(n)
}

func replyTextByHand(a impl.Reply) string {
	if kindByHand(a.Kind) == "" {
		return ""
	}
	text := fmt.Sprintf("%s %s %s", numberByHandText(a.Client), kindByHand(a.Kind), numberByHandText(a.Resp.Status))
	if at := slices.IndexFunc(a.Resp.Fields, func(f impl.Field) bool { return f.Name == "age" }); at >= 0 {
		text += " " + a.Resp.Fields[at].Value
	}
	return text
}

func shelfTextByHand(s impl.Shelf) string {
	if !shelfOkByHand(s) {
		return ""
	}
	text := "-"
	for i, one := range s.Objs {
		if i == 0 {
			text = ""
		} else {
			text += " "
		}
		text += fmt.Sprintf("%s@%d", one.Obj.Path, one.Obj.T)
	}
	if n := len(s.Bans); n > 0 {
		text += fmt.Sprintf(" !%d", n)
	}
	return text
}

func checkKindText(t *testing.T, kind int, want string) {
	t.Helper()
	if got := impl.KindText(kind); got != want || kindByHand(kind) != want {
		t.Fatalf("KindText(%d) = %q, not %q", kind, got, want)
	}
}

func checkReplyText(t *testing.T, a impl.Reply, want string) {
	t.Helper()
	if got := impl.ReplyText(a); got != want || replyTextByHand(a) != want {
		t.Fatalf("ReplyText(%s) = %q, not %q", inShort(a), got, want)
	}
}

func checkShelfText(t *testing.T, s impl.Shelf, want string) {
	t.Helper()
	if got := impl.ShelfText(s); got != want || shelfTextByHand(s) != want {
		t.Fatalf("ShelfText(%s) = %q, not %q (by hand %q)", inShort(s), got, want, shelfTextByHand(s))
	}
}

// replied is an answer to the client 7, of 200.
func replied(kind int, words ...string) impl.Reply {
	return impl.Reply{Client: 7, Kind: kind, Resp: impl.Resp{Status: 200, Fields: fieldsOf(words...)}}
}

func TestKindText(t *testing.T) {
	checkKindText(t, impl.AnHere, "here")
	checkKindText(t, impl.AnThere, "there")
	checkKindText(t, impl.AnSame, "same")
	checkKindText(t, impl.AnNot, "not")
	for i, want := range []string{"", "here", "there", "same", "not", ""} {
		checkKindText(t, i, want)
	}
}

func TestKindTextOfNoKind(t *testing.T) {
	for n := 1; n < 3000; n++ {
		checkKindText(t, -n, "")
		checkKindText(t, 4+n, "")
	}
	checkKindText(t, 0, "")
	for _, kind := range farNumbers() {
		checkKindText(t, kind, "")
	}
}

func TestReplyTextOfEachKind(t *testing.T) {
	for kind, word := range map[int]string{impl.AnHere: "here", impl.AnThere: "there", impl.AnSame: "same", impl.AnNot: "not"} {
		checkReplyText(t, replied(kind), "7 "+word+" 200")
		checkReplyText(t, replied(kind, "age", "3"), "7 "+word+" 200 3")
		checkReplyText(t, replied(kind, "etag", "x"), "7 "+word+" 200")
		checkReplyText(t, impl.Reply{Kind: kind}, "0 "+word+" 0")
	}
}

// However right all else is, or however wrong.
func TestReplyTextOfNoKind(t *testing.T) {
	for _, kind := range append(farNumbers(), -4, -3, -2, -1, 0, 5, 6, 7, 8) {
		for _, a := range append(busy().Sent, judged().Sent...) {
			a.Kind = kind
			checkReplyText(t, a, "")
		}
		for _, a := range []impl.Reply{{}, {Client: -1}, replied(0), replied(0, "age", "3"), replied(0, "age", ""), {Client: math.MaxInt, Resp: impl.Resp{Status: -1}}, {Resp: impl.Resp{Body: "here"}}} {
			a.Kind = kind
			checkReplyText(t, a, "")
		}
	}
}

func TestReplyTextOfClients(t *testing.T) {
	for client, want := range map[int]string{0: "0", 1: "1", 9: "9", 10: "10", 120: "120", 999999: "999999", 1000000: "1000000", 1000001: "", -1: "", -9: "", -1000000: ""} {
		a := replied(impl.AnHere)
		a.Client = client
		checkReplyText(t, a, want+" here 200")
		a.Resp.Fields = fieldsOf("age", "4")
		checkReplyText(t, a, want+" here 200 4")
	}
	for _, client := range farNumbers() {
		if client < 0 || client > impl.MaxTime {
			a := replied(impl.AnSame)
			a.Client = client
			checkReplyText(t, a, " same 200")
		}
	}
}

func TestReplyTextOfStatuses(t *testing.T) {
	for status, want := range map[int]string{0: "0", 1: "1", 99: "99", 100: "100", 200: "200", 304: "304", 503: "503", 599: "599", 600: "600", 999999: "999999", 1000000: "1000000", 1000001: "", -1: "", -200: "", -1000000: ""} {
		a := replied(impl.AnThere)
		a.Resp.Status = status
		checkReplyText(t, a, "7 there "+want)
		a.Resp.Fields = fieldsOf("age", "4")
		checkReplyText(t, a, "7 there "+want+" 4")
	}
	for _, status := range farNumbers() {
		if status < 0 || status > impl.MaxTime {
			a := replied(impl.AnNot)
			a.Resp.Status = status
			checkReplyText(t, a, "7 not ")
		}
	}
}

// The blanks stand there, even where there is nothing beside them.
func TestReplyTextOfNothingBesideBlanks(t *testing.T) {
	a := impl.Reply{Client: -1, Kind: impl.AnNot, Resp: impl.Resp{Status: -1}}
	checkReplyText(t, a, " not ")
	a.Resp.Fields = fieldsOf("age", "")
	checkReplyText(t, a, " not  ")
	a.Resp.Fields = fieldsOf("age", " ")
	checkReplyText(t, a, " not   ")
	a.Resp.Fields = fieldsOf("age", "x")
	checkReplyText(t, a, " not  x")
}

func TestReplyTextOfAllNumbers(t *testing.T) {
	numbers := append(farNumbers(), -1, 0, 1, 9, 10, 99, 100, 200, 304, 599, 999999, 1000000, 1000001)
	for _, client := range numbers {
		for _, status := range numbers {
			for kind := -1; kind <= 6; kind++ {
				for _, fields := range [][]impl.Field{nil, fieldsOf("age", "0"), fieldsOf("age", "")} {
					a := impl.Reply{Client: client, Kind: kind, Resp: impl.Resp{Status: status, Fields: fields}}
					checkReplyText(t, a, replyTextByHand(a))
				}
			}
		}
	}
}

func TestReplyTextAge(t *testing.T) {
	checkReplyText(t, replied(impl.AnHere, "age", "0"), "7 here 200 0")
	checkReplyText(t, replied(impl.AnHere, "age", "1000000"), "7 here 200 1000000")
	// It is told as it stands there, number or none.
	for _, value := range []string{"", " ", "-", "-1", "007", "1000001", "99999999999999999999", "x", "5 ", " 5", "5 6", "1,2", "five", "\n", "7 here 200", "age", "\x00"} {
		checkReplyText(t, replied(impl.AnHere, "age", value), "7 here 200 "+value)
		checkReplyText(t, replied(impl.AnThere, "age", value), "7 there 200 "+value)
	}
}

func TestReplyTextAgeAtEachPlace(t *testing.T) {
	for n := range 10 {
		for at := range n + 1 {
			fields := slices.Insert(manyFields(n), at, impl.Field{Name: "age", Value: "12"})
			a := replied(impl.AnSame)
			a.Resp.Fields = fields
			checkReplyText(t, a, "7 same 200 12")
			a.Resp.Fields = slices.Delete(fields, at, at+1)
			checkReplyText(t, a, "7 same 200")
		}
	}
}

func TestReplyTextOfTwoAges(t *testing.T) {
	checkReplyText(t, replied(impl.AnHere, "age", "1", "age", "2"), "7 here 200 1")
	checkReplyText(t, replied(impl.AnHere, "age", "2", "age", "1"), "7 here 200 2")
	checkReplyText(t, replied(impl.AnHere, "age", "", "age", "2"), "7 here 200 ")
	checkReplyText(t, replied(impl.AnHere, "age", "x", "etag", "v", "age", "2"), "7 here 200 x")
	checkReplyText(t, replied(impl.AnHere, "Age", "1", "age", "2"), "7 here 200 2")
	checkReplyText(t, replied(impl.AnHere, "age", "2", "Age", "1", "age", "3"), "7 here 200 2")
}

func TestReplyTextOfOtherNames(t *testing.T) {
	for _, name := range []string{"Age", "AGE", "aGe", "agE", "", " age", "age ", "ages", "ag", "ge", "a", "page", "max-age", "age:", "age\x00", "\uff41ge", "\xc3age", "etag"} {
		checkReplyText(t, replied(impl.AnHere, name, "3"), "7 here 200")
		checkReplyText(t, replied(impl.AnHere, name, "3", "age", "4"), "7 here 200 4")
	}
	for _, value := range []string{"age", "age: 3", "max-age=3"} {
		checkReplyText(t, replied(impl.AnHere, "cache-control", value), "7 here 200")
	}
}

func TestReplyTextOfAnyBytes(t *testing.T) {
	for _, text := range oddTexts() {
		checkReplyText(t, replied(impl.AnHere, "age", text), "7 here 200 "+text)
		checkReplyText(t, replied(impl.AnThere, "age"+text, "1"), map[bool]string{true: "7 there 200 1", false: "7 there 200"}[text == ""])
		checkReplyText(t, replied(impl.AnSame, text, "1", "x", text), "7 same 200")
		checkReplyText(t, replied(0, "age", text), "")
	}
}

// What else there is of an answer is nothing to it.
func TestReplyTextHangsOnNothingElse(t *testing.T) {
	odd := impl.Req{Method: 9, Path: "age", Fields: fieldsOf("age", "8"), Body: "age: 8"}
	for i, make := range []func(a *impl.Reply){
		func(a *impl.Reply) { a.Q = odd },
		func(a *impl.Reply) { a.Q = asks("age", "8") },
		func(a *impl.Reply) { a.T = 8 },
		func(a *impl.Reply) { a.T = math.MinInt },
		func(a *impl.Reply) { a.Bans = 8 },
		func(a *impl.Reply) { a.Bans = -1 },
		func(a *impl.Reply) { a.Obj = speaks("/a", "de", 8) },
		func(a *impl.Reply) {
			a.Obj = impl.Obj{Path: "age", Names: []string{"age"}, Values: []string{"8"}, Resp: tells("age", "8"), T: 8}
		},
		func(a *impl.Reply) { a.Resp.Body = "age: 8" },
		func(a *impl.Reply) { a.Resp.Body = strings.Repeat("8 ", 1000) },
	} {
		for kind := impl.AnHere; kind <= impl.AnNot; kind++ {
			a, aged := replied(kind), replied(kind, "etag", "v", "age", "3")
			make(&a)
			make(&aged)
			if got, want := impl.ReplyText(a), "7 "+kindByHand(kind)+" 200"; got != want || impl.ReplyText(aged) != want+" 3" {
				t.Errorf("by %d ReplyText(%s) = %q, and with an age %q", i, inShort(a), got, impl.ReplyText(aged))
			}
		}
	}
}

func textsOfReplies(list []impl.Reply) string {
	var texts []string
	for _, a := range list {
		texts = append(texts, impl.ReplyText(a))
	}
	return strings.Join(texts, "\n")
}

func TestReplyTextAsTheyAreAnswered(t *testing.T) {
	c, _ := impl.CacheRun(impl.CacheNew(), judgedDeeds())
	want := "1 there 200\n2 here 200 1\n3 there 200\n4 not 200\n5 here 200 0\n6 same 200 0\n7 here 304 0\n8 not 504\n9 there 200\n10 here 200 0"
	if got := textsOfReplies(c.Sent); got != want {
		t.Errorf("there is shown %q", got)
	}
	want += "\n11 not 504\n12 not 504\n13 not 504"
	if got := textsOfReplies(impl.Drain(c).Sent); got != want {
		t.Errorf("drained there is shown %q", got)
	}
}

// What the origin says of its age is told as it says it, and grows here.
func TestReplyTextAsItAges(t *testing.T) {
	r := tells("cache-control", "max-age=9", "age", "3")
	list := []impl.Deed{askDeed(1, asks()), replyDeed(0, r)}
	for i := range 7 {
		list = append(list, askDeed(2+i, asks()), tickDeed(1))
	}
	c, _ := impl.CacheRun(impl.CacheNew(), list)
	want := "1 there 200 3\n2 here 200 3\n3 here 200 4\n4 here 200 5\n5 here 200 6\n6 here 200 7\n7 here 200 8"
	if got := textsOfReplies(c.Sent); got != want {
		t.Errorf("there is shown %q", got)
	}
	r.Fields[1].Value = "soon"
	c, _ = impl.CacheRun(impl.CacheNew(), []impl.Deed{askDeed(1, asks()), replyDeed(0, r), askDeed(2, asks()), replyDeed(0, same304())})
	if got := textsOfReplies(c.Sent); got != "1 there 200 soon\n2 same 200 1000000" {
		t.Errorf("there is shown %q", got)
	}
}

func TestShelfTextOfNoneKnown(t *testing.T) {
	checkShelfText(t, impl.ShelfNew(), "-")
	checkShelfText(t, shelves(), "-")
	for _, objs := range [][]impl.Kept{nil, {}, make([]impl.Kept, 0, 9)} {
		for _, bans := range [][]impl.Ban{nil, {}, make([]impl.Ban, 0, 5)} {
			s := impl.ShelfNew()
			s.Objs, s.Bans = objs, bans
			checkShelfText(t, s, "-")
		}
	}
	for n, want := range []string{"-", "- !1", "- !2", "- !3", "- !4", "- !5", ""} {
		s := impl.ShelfNew()
		s.Bans = manyBans(n)
		checkShelfText(t, s, want)
	}
}

func TestShelfTextOfOneKnown(t *testing.T) {
	for path, want := range map[string]string{"/": "/@7", "/a": "/a@7", "/a/b?c=1": "/a/b?c=1@7", "/@": "/@@7", "/!5": "/!5@7", "/-": "/-@7"} {
		s := shelves(knows(lies(path), 5, 1))
		checkShelfText(t, s, want)
		for n := 1; n <= 5; n++ {
			s.Bans = manyBans(n)
			checkShelfText(t, s, fmt.Sprint(want, " !", n))
		}
	}
	for at := 5; at < 20; at++ {
		checkShelfText(t, shelves(knows(speaks("/a", "de", 3), at, 1+at)), "/a@3")
	}
}

func TestShelfTextOfTimes(t *testing.T) {
	for at, want := range map[int]string{0: "/a@0", 1: "/a@1", 9: "/a@9", 10: "/a@10", 4711: "/a@4711", 999999: "/a@999999", 1000000: "/a@1000000", 1000001: "", -1: ""} {
		checkShelfText(t, shelves(knows(plain("/a", at), 5, 1)), want)
		if want != "" {
			want += " /b@3"
		}
		checkShelfText(t, shelves(knows(plain("/a", at), 5, 1), knows(plain("/b", 3), 6, 2)), want)
	}
	for _, at := range farNumbers() {
		if at < 0 || at > impl.MaxTime {
			checkShelfText(t, shelves(knows(plain("/a", at), 5, 1)), "")
		}
	}
	// The age that an object came with is not its time.
	aged := plain("/a", 3)
	aged.Resp.Fields = fieldsOf("age", "9")
	checkShelfText(t, shelves(knows(aged, 5, 1)), "/a@3")
}

// They are told in the order in which they are known, not by cell, path or
// time.
func TestShelfTextInOrder(t *testing.T) {
	checkShelfText(t, shelves(knows(plain("/c", 9), 19, 1), knows(plain("/a", 4), 7, 2), knows(plain("/b", 6), 5, 50)), "/c@9 /a@4 /b@6")
	checkShelfText(t, shelves(knows(plain("/b", 6), 5, 2), knows(plain("/c", 9), 7, 3), knows(plain("/a", 4), 6, 50)), "/b@6 /c@9 /a@4")
	checkShelfText(t, shelves(knows(speaks("/a", "de", 1), 9, 1), knows(speaks("/a", "en", 1), 8, 2), knows(speaks("/a", "de", 1), 7, 3)), "/a@1 /a@1 /a@1")
	all := []string{}
	for n := range 16 {
		s := stocked(n)
		if n > 0 {
			all = append(all, fmt.Sprintf("/%d@%d", n-1, 9+n))
			checkShelfText(t, s, strings.Join(all, " "))
		}
		s.Bans = manyBans(5)
		checkShelfText(t, s, strings.Join(append([]string{"-"}, all...)[min(n, 1):], " ")+" !5")
	}
	checkShelfText(t, stocked(15), "/0@10 /1@11 /2@12 /3@13 /4@14 /5@15 /6@16 /7@17 /8@18 /9@19 /10@20 /11@21 /12@22 /13@23 /14@24")
	checkShelfText(t, stocked(16), "")
}

// How many there are is told of bans, whatever they ban, and whoever they hit.
func TestShelfTextOfBans(t *testing.T) {
	for i, b := range []impl.Ban{banPath("/a", 0), banPath("/a", 99), banBelow("/", impl.MaxTime), banField("etag", "v3", 99), banField("none", "x", 0)} {
		for n := 1; n <= 5; n++ {
			s := shelves(knows(plain("/a", 3), 5, 1), knows(plain("/b", 4), 6, 2))
			s.Bans = slices.Repeat([]impl.Ban{b}, n)
			checkShelfText(t, s, fmt.Sprint("/a@3 /b@4 !", n))
			s.Objs = nil
			checkShelfText(t, s, fmt.Sprint("- !", n))
			s.Bans[n-1].B += strings.Repeat("\n", 1+i)
			checkShelfText(t, s, "")
		}
	}
	s := shelves(knows(plain("/a", 3), 5, 1))
	s.Bans = manyBans(6)
	checkShelfText(t, s, "")
}

// What lies on the disk, and what comes next, is not shown.
func TestShelfTextHangsOnNothingElse(t *testing.T) {
	for _, s := range rightShelves() {
		want := shelfTextByHand(s)
		checkShelfText(t, s, want)
		for n := range 17 {
			s.Disk = holds(manyWrites(n)...)
			s.Next = 5 + n%15
			checkShelfText(t, s, want)
		}
		s.Disk, s.Seq = impl.DiskNew(), impl.MaxSeq
		checkShelfText(t, s, want)
	}
	for _, o := range append(someObjs(), longestObj()) {
		checkShelfText(t, shelves(knows(o, 9, 3)), fmt.Sprintf("%s@%d", o.Path, o.T))
	}
}

func TestShelfTextOfWrongShelves(t *testing.T) {
	s := stocked(4)
	s.Bans = manyBans(4)
	checkShelfText(t, s, "/0@10 /1@11 /2@12 /3@13 !4")
	for _, wrong := range wrongShelves() {
		checkShelfText(t, wrong, "")
		wrong.Objs = nil
		checkShelfText(t, wrong, shelfTextByHand(wrong))
	}
	checkShelfText(t, impl.Shelf{}, "")
	// Each of these turns one part alone of what is shown above.
	for i, make := range []func(s *impl.Shelf){
		func(s *impl.Shelf) { s.Disk = impl.Disk{} },
		func(s *impl.Shelf) { s.Disk.Cells = s.Disk.Cells[1:] },
		func(s *impl.Shelf) { s.Disk.Pending = append(s.Disk.Pending, impl.Write{At: -1}) },
		func(s *impl.Shelf) { s.Next = 0 },
		func(s *impl.Shelf) { s.Seq = 0 },
		func(s *impl.Shelf) { s.Seq = s.Objs[len(s.Objs)-1].Seq },
		func(s *impl.Shelf) { s.Objs[1].Seq = s.Objs[2].Seq },
		func(s *impl.Shelf) { s.Objs[1].At = s.Objs[2].At },
		func(s *impl.Shelf) { s.Objs[0].At = 4 },
		func(s *impl.Shelf) { s.Objs[3].Obj = impl.Obj{} },
		func(s *impl.Shelf) { s.Objs[3].Obj.Path = "3" },
		func(s *impl.Shelf) { s.Objs[0].Obj.Names = nil },
		func(s *impl.Shelf) { s.Objs[0].Obj.Values[0] = "" },
		func(s *impl.Shelf) { s.Objs[2].Obj.Resp.Status = 99 },
		func(s *impl.Shelf) { s.Bans[0] = impl.Ban{} },
		func(s *impl.Shelf) { s.Bans[3].T = -1 },
	} {
		turned := roomy(s)
		make(&turned)
		if got := impl.ShelfText(turned); got != "" {
			t.Errorf("turned by %d there is shown %q", i, got)
		}
	}
}

func TestShelfTextOfRightPaths(t *testing.T) {
	paths := append(rightPaths(), "/@", "/@5", "/@0@0", "/!", "/!1", "/-", "/a@1,/b@2", "/\"", "/"+bytesFrom(33, 59), "/"+bytesFrom(68, 59), "//////")
	for i, path := range paths {
		checkShelfText(t, shelves(knows(plain(path, i), 5, 1)), fmt.Sprintf("%s@%d", path, i))
		other := paths[(i+3)%len(paths)]
		s := shelves(knows(plain(path, 0), 5, 1), knows(plain(other, 1000000), 9, 2))
		checkShelfText(t, s, path+"@0 "+other+"@1000000")
		s.Bans = manyBans(2)
		checkShelfText(t, s, path+"@0 "+other+"@1000000 !2")
	}
}

func TestShelfTextOfAnyBytes(t *testing.T) {
	for _, text := range fewOdd() {
		for _, path := range []string{text, "/" + text, "/" + text + "a", text + "/"} {
			want := ""
			if path != "" && path[0] == '/' && !slices.ContainsFunc([]byte(path), func(b byte) bool { return b < 33 || b > 126 }) {
				want = path + "@3"
			}
			checkShelfText(t, shelves(knows(plain(path, 3), 5, 1)), want)
		}
		s := stocked(2)
		s.Disk.Cells[6] = text
		s.Disk.Pending = append(s.Disk.Pending, impl.Write{At: 19, Text: text})
		s.Objs[0].Obj.Resp.Body = text
		checkShelfText(t, s, "/0@10 /1@11")
		s.Objs[0].Obj.Values = []string{text}
		checkShelfText(t, s, shelfTextByHand(s))
		s = stocked(2)
		s.Bans = []impl.Ban{banField("x", text, 5)}
		checkShelfText(t, s, shelfTextByHand(s))
		s.Bans = []impl.Ban{banPath("/"+text, 5)}
		checkShelfText(t, s, shelfTextByHand(s))
	}
}

func TestShelfTextAsItIsMoved(t *testing.T) {
	s := impl.ShelfNew()
	for i, want := range []string{"/a@3", "/a@3 /b@4", "/b@4 /a@5"} {
		s, _ = impl.Keep(s, plain([]string{"/a", "/b", "/a"}[i], 3+i))
		checkShelfText(t, s, want)
	}
	checkShelfText(t, impl.Mount(impl.Crash(s.Disk, nil)), "-")
	checkShelfText(t, impl.Mount(impl.Crash(s.Disk, []bool{true})), "/a@3")
	checkShelfText(t, impl.Mount(impl.Crash(s.Disk, []bool{false, true})), "/b@4")
	checkShelfText(t, impl.Mount(impl.Flush(s.Disk)), "/b@4 /a@5")
	s, _ = impl.Banish(s, banPath("/b", 4))
	checkShelfText(t, s, "/a@5 !1")
	s, _ = impl.Keep(s, plain("/b", 5))
	s, _ = impl.Banish(s, banPath("/c", 9))
	checkShelfText(t, s, "/a@5 /b@5 !2")
	s, _ = impl.Banish(s, banBelow("/", 9))
	checkShelfText(t, s, "- !3")
	checkShelfText(t, impl.Mount(impl.Crash(s.Disk, nil)), "- !3")
	s, _ = impl.Keep(s, plain("/b", 9))
	checkShelfText(t, s, "- !3")
	s, _ = impl.Keep(s, plain("/b", 10))
	checkShelfText(t, s, "/b@10 !3")
	s, _ = impl.Keep(impl.Shelf{}, plain("/b", 10))
	checkShelfText(t, s, "")
	checkShelfText(t, judged().Shelf, "/b@11 /a@16 /d@16 !2")
}

// showAnswers is all that there is to be shown of a cache.
func showAnswers(c impl.Cache) []string {
	all := []string{impl.ShelfText(c.Shelf)}
	for _, a := range c.Sent {
		all = append(all, impl.KindText(a.Kind), impl.ReplyText(a))
	}
	return all
}

func showByHand(c impl.Cache) []string {
	all := []string{shelfTextByHand(c.Shelf)}
	for _, a := range c.Sent {
		all = append(all, kindByHand(a.Kind), replyTextByHand(a))
	}
	return all
}

func shownCaches() []impl.Cache {
	all := append(movedCaches(), judged(), bannedSince(), withSent(replied(1, "age", "3"), replied(2, "age", ""), replied(5, "age", "3"), replied(-1)))
	for _, s := range append(wrongShelves()[:9], shelves(knows(plain("/long/path/of/one/alone", 3), 5, 1)), stocked(15)) {
		c := judged()
		c.Shelf = s
		all = append(all, c)
	}
	return all
}

func TestShowOfManyCaches(t *testing.T) {
	for _, c := range slices.Concat(rightCaches(), wrongCaches(), shownCaches()) {
		if got, want := showAnswers(c), showByHand(c); !slices.Equal(got, want) {
			t.Fatalf("of %s there is shown %q, not %q", inShort(c), got, want)
		}
	}
	for _, s := range slices.Concat(rightShelves(), wrongShelves(), writtenShelves()) {
		checkShelfText(t, s, shelfTextByHand(s))
	}
}

func TestShowWritesIntoNothing(t *testing.T) {
	for _, was := range shownCaches() {
		c := roomy(was)
		before := partsText(c)
		if got, want := showAnswers(c), showByHand(was); !slices.Equal(got, want) {
			t.Fatalf("of %s there is shown %q, not %q", inShort(was), got, want)
		}
		if partsText(c) != before {
			t.Fatalf("%s was written into, or its room: %s", inShort(was), inShort(c))
		}
	}
}

// What was shown stays so, even where it is one part alone.
func TestShowIsNewMemory(t *testing.T) {
	for _, was := range shownCaches() {
		c := roomy(was)
		givenTexts, _ := partsTextsAndSpans(c)
		given := textSpans(givenTexts)
		all := showAnswers(c)
		for _, one := range all {
			// Words of few bytes may be one and the same wherever they are told.
			if meets := textSpans([]string{one}); len(meets) > 0 && meetsAny(meets[0], given) {
				t.Fatalf("%q of %s shares memory with an argument", one, inShort(c))
			}
		}
		runtime.KeepAlive(c)
		runtime.KeepAlive(all)
	}
}

// What was shown is shown again, whatever was shown between, as nothing is
// kept.
func TestShowKeepsNothing(t *testing.T) {
	caches := append(shownCaches(), impl.Cache{}, impl.CacheNew())
	for range 3 {
		for i := range caches {
			c := caches[(i*5)%len(caches)]
			if got, want := showAnswers(c), showByHand(c); !slices.Equal(got, want) {
				t.Fatalf("of %s there is shown %q, not %q", inShort(c), got, want)
			}
		}
	}
	for range 3 {
		checkReplyText(t, replied(1, "age", "3"), "7 here 200 3")
		checkReplyText(t, replied(0, "age", "3"), "")
		checkReplyText(t, replied(1), "7 here 200")
		checkShelfText(t, stocked(2), "/0@10 /1@11")
		checkShelfText(t, impl.Shelf{}, "")
		checkShelfText(t, impl.ShelfNew(), "-")
	}
}

func TestShowAtTheSameTime(t *testing.T) {
	for _, c := range shownCaches() {
		want := showByHand(c)
		told := make([][]string, 16)
		start := make(chan struct{})
		var joined sync.WaitGroup
		for i := range told {
			joined.Go(func() {
				<-start
				told[i] = showAnswers(c)
			})
		}
		close(start)
		joined.Wait()
		for _, got := range told {
			if !slices.Equal(got, want) {
				t.Fatalf("of %s there is shown %q, not %q", inShort(c), got, want)
			}
		}
	}
}

// checkReplyShown reads a text back: what is none is not in it, and all that
// there is is. It is for an answer whose age, if it has one, has no blank.
func checkReplyShown(t *testing.T, a impl.Reply) (shown, aged bool) {
	t.Helper()
	text := impl.ReplyText(a)
	if isKind := 1 <= a.Kind && a.Kind <= 4; !isKind {
		if text != "" {
			t.Fatalf("of the kind %d there is shown %q", a.Kind, text)
		}
		return false, false
	}
	value, aged := impl.Get(a.Resp.Fields, "age")
	words := strings.Split(text, " ")
	if want := map[bool]int{true: 4, false: 3}[aged]; len(words) != want {
		t.Fatalf("of %s there is shown %q", inShort(a), text)
	}
	if words[0] != strconv.Itoa(a.Client) || words[1] != kindByHand(a.Kind) || words[2] != strconv.Itoa(a.Resp.Status) || aged && words[3] != value {
		t.Fatalf("of %s there is shown %q", inShort(a), text)
	}
	return true, aged
}

func checkShelfShown(t *testing.T, s impl.Shelf) string {
	t.Helper()
	text := impl.ShelfText(s)
	if !impl.ShelfOk(s) {
		if text != "" {
			t.Fatalf("of %s, which is none, there is shown %q", inShort(s), text)
		}
		return text
	}
	words := strings.Split(text, " ")
	if n := len(s.Bans); n > 0 {
		if last := words[len(words)-1]; last != "!"+strconv.Itoa(n) {
			t.Fatalf("of %d bans there is shown %q", n, text)
		}
		words = words[:len(words)-1]
	}
	if len(s.Objs) == 0 && !slices.Equal(words, []string{"-"}) || len(s.Objs) > 0 && len(words) != len(s.Objs) {
		t.Fatalf("of %s there is shown %q", inShort(s.Objs), text)
	}
	for i, one := range s.Objs {
		at := strings.LastIndex(words[i], "@")
		if at < 0 || words[i][:at] != one.Obj.Path || words[i][at+1:] != strconv.Itoa(one.Obj.T) {
			t.Fatalf("of %s there is shown %q", inShort(one), words[i])
		}
	}
	return text
}

func TestPromise19OverLongRuns(t *testing.T) {
	told := map[string]int{}
	for number := range uint32(24) {
		row := judgeRow(600+number, 200)
		if number%3 == 2 {
			row = deedRow(600+number, 200)
		}
		c := impl.CacheNew()
		for at := 0; at < len(row); at += 8 {
			c, _ = impl.CacheRun(c, row[at:min(at+8, len(row))])
			text := checkShelfShown(t, c.Shelf)
			told[fmt.Sprint("known ", !strings.HasPrefix(text, "-"))]++
			told[fmt.Sprint("banned ", strings.Contains(text, " !"))]++
		}
		for _, a := range impl.Drain(c).Sent {
			_, aged := checkReplyShown(t, a)
			told[fmt.Sprint(impl.KindText(a.Kind), " ", aged)]++
		}
	}
	for _, what := range []string{"known true", "known false", "banned true", "banned false", "here true", "there false", "there true", "same true", "same false", "not false"} {
		if told[what] < 3 {
			t.Errorf("too little was shown: %v", told)
			break
		}
	}
}

// What was right is turned into what is none, one thing at a time, and shown no
// more.
func TestPromise19WhatIsTurnedIntoNone(t *testing.T) {
	hidden := 0
	for number := range uint32(8) {
		c, _ := impl.CacheRun(impl.CacheNew(), judgeRow(700+number, 120))
		for i, a := range c.Sent {
			shown, aged := checkReplyShown(t, a)
			if !shown {
				t.Fatalf("%s is not shown", inShort(a))
			}
			if aged {
				text := impl.ReplyText(a)
				a.Resp.Fields = impl.Drop(a.Resp.Fields, "age")
				if after := impl.ReplyText(a); !strings.HasPrefix(text, after+" ") || len(strings.Split(after, " ")) != 3 {
					t.Fatalf("without its age %q is shown as %q", text, after)
				}
			}
			a.Kind = []int{0, 5, -1, math.MaxInt}[i%4]
			checkReplyShown(t, a)
			hidden++
		}
		for i := range wrongsOf() {
			one := wrongsOf()[i]
			c := judged()
			one.make(&c)
			checkShelfShown(t, c.Shelf)
		}
	}
	if hidden < 100 {
		t.Errorf("only %d answers were turned", hidden)
	}
	for _, s := range slices.Concat(rightShelves(), wrongShelves(), writtenShelves()) {
		checkShelfShown(t, s)
	}
}

func TestPromise19OverAllShortRuns(t *testing.T) {
	q, other := asksIn("/a", "de"), asksIn("/b", "de")
	deeds := []impl.Deed{askDeed(0, q), askDeed(0, other), askDeed(0, purges("/a")), replyDeed(0, keepable(3)), replyDeed(0, same304("age", "2")), failDeed(0), tickDeed(2), banDeed(banBelow("/b", 0)), crashDeed(true)}
	eachShortRun(impl.CacheNew(), deeds, 4, func(c impl.Cache, left int) {
		checkShelfShown(t, c.Shelf)
		for _, a := range c.Sent {
			checkReplyShown(t, a)
		}
	})
}

func TestPromise19ShowAnswersAnything(t *testing.T) {
	long := strings.Repeat("x", 100000)
	odd := impl.Obj{Path: long, Names: make([]string, 1000), Values: make([]string, 1000), Resp: impl.Resp{Status: math.MinInt, Fields: make([]impl.Field, 1000), Body: long}, T: math.MaxInt}
	said := impl.Resp{Status: math.MinInt, Fields: append(make([]impl.Field, 10000), fieldsOf("age", long)...), Body: long}
	for kind := -1; kind <= 6; kind++ {
		a := impl.Reply{Client: math.MinInt, Q: impl.Req{Method: math.MinInt, Path: long, Fields: make([]impl.Field, 1000)}, Resp: said, Kind: kind, T: math.MaxInt, Obj: odd, Bans: math.MinInt}
		want := ""
		if word := kindByHand(kind); word != "" {
			want = " " + word + "  " + long
		}
		checkReplyText(t, a, want)
	}
	much := shelves()
	much.Objs = slices.Repeat([]impl.Kept{knows(odd, 5, 1)}, 10000)
	much.Bans = make([]impl.Ban, 10000)
	for _, s := range []impl.Shelf{much, shelves(knows(odd, math.MinInt, math.MaxInt)), {Objs: make([]impl.Kept, 10000)}, {Bans: make([]impl.Ban, 10000)}, {Disk: impl.Disk{Cells: make([]string, 10000), Pending: make([]impl.Write, 10000)}, Next: math.MinInt, Seq: math.MinInt}} {
		checkShelfText(t, s, "")
	}
	checkShelfText(t, keptAll(longestObj()), longestObj().Path+"@1000000")
}
