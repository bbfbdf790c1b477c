package tests

import (
	"cmp"
	"fmt"
	"go/ast"
	"go/parser"
	"go/token"
	"maps"
	"math"
	"path/filepath"
	"reflect"
	"runtime"
	"slices"
	"strings"
	"sync"
	"testing"

	"loop.example/g00239/impl"
)

// everyFunction is all that the program can be asked, by name.
func everyFunction() map[string]any {
	return map[string]any{
		"Lower": impl.Lower, "Trim": impl.Trim, "TokenOk": impl.TokenOk, "ValueOk": impl.ValueOk, "NumRead": impl.NumRead, "NumText": impl.NumText, "Split": impl.Split,
		"FieldsOk": impl.FieldsOk, "Get": impl.Get, "Put": impl.Put, "Drop": impl.Drop, "FieldsText": impl.FieldsText,
		"ReqOk": impl.ReqOk, "RespOk": impl.RespOk, "ReqText": impl.ReqText, "RespText": impl.RespText, "ReqRead": impl.ReqRead, "RespRead": impl.RespRead,
		"Hex": impl.Hex, "ChunkText": impl.ChunkText, "ChunkRead": impl.ChunkRead,
		"Feed": impl.Feed, "Pieces": impl.Pieces, "FeedAll": impl.FeedAll,
		"CcRead": impl.CcRead, "CcText": impl.CcText, "CcOf": impl.CcOf,
		"Plus": impl.Plus, "AgeAt": impl.AgeAt, "Life": impl.Life, "Fresh": impl.Fresh,
		"VaryOf": impl.VaryOf, "ValuesOf": impl.ValuesOf, "Suits": impl.Suits,
		"MayKeep": impl.MayKeep, "Ask": impl.Ask, "Merge": impl.Merge, "Same": impl.Same, "Short": impl.Short,
		"ObjOk": impl.ObjOk, "ObjOf": impl.ObjOf, "ObjText": impl.ObjText, "ObjRead": impl.ObjRead,
		"BanOk": impl.BanOk, "Hits": impl.Hits, "HitsAny": impl.HitsAny, "BanText": impl.BanText, "BanRead": impl.BanRead,
		"DiskOk": impl.DiskOk, "DiskNew": impl.DiskNew, "DiskPut": impl.DiskPut, "DiskGet": impl.DiskGet, "Flush": impl.Flush, "Crash": impl.Crash,
		"Sum": impl.Sum, "RecText": impl.RecText, "RecRead": impl.RecRead,
		"ShelfOk": impl.ShelfOk, "ShelfNew": impl.ShelfNew, "Keep": impl.Keep, "Banish": impl.Banish, "Find": impl.Find, "Mount": impl.Mount,
		"Decide": impl.Decide, "Answer": impl.Answer, "Alike": impl.Alike,
		"CacheOk": impl.CacheOk, "CacheNew": impl.CacheNew, "CacheDo": impl.CacheDo, "CacheRun": impl.CacheRun,
		"Comes": impl.Comes, "JudgeHere": impl.JudgeHere, "JudgeBans": impl.JudgeBans, "JudgeOnce": impl.JudgeOnce, "JudgeDisk": impl.JudgeDisk, "JudgeAll": impl.JudgeAll,
		"Waiting": impl.Waiting, "Drain": impl.Drain, "Served": impl.Served, "Share": impl.Share,
		"KindText": impl.KindText, "ReplyText": impl.ReplyText, "ShelfText": impl.ShelfText,
		"CacheLine": impl.CacheLine, "Session": impl.Session,
	}
}

// Nothing is left out of what is tested here, and nothing of what the document
// lists is missing.
func TestEveryFunctionIsThere(t *testing.T) {
	files, _ := filepath.Glob("../impl/*.go")
	var names []string
	for _, name := range files {
		file, err := parser.ParseFile(token.NewFileSet(), name, nil, 0)
		if err != nil {
			t.Fatal(err)
		}
		for _, decl := range file.Decls {
			if f, isFunc := decl.(*ast.FuncDecl); isFunc && f.Recv == nil && f.Name.IsExported() {
				names = append(names, f.Name.Name)
			}
		}
	}
	slices.Sort(names)
	if want := slices.Sorted(maps.Keys(everyFunction())); !slices.Equal(names, want) || len(files) != 20 {
		t.Errorf("in %d files there are %v, not %v", len(files), names, want)
	}
}

// lot draws values by a row of numbers: for each type those that mean something
// to the program, few of which go together with each other, and others that are
// put together of anything.
type lot struct {
	number     uint32
	few, known map[reflect.Type][]reflect.Value
}

func valuesOfAll[T any](lists ...[]T) []reflect.Value {
	var all []reflect.Value
	for _, one := range slices.Concat(lists...) {
		all = append(all, reflect.ValueOf(one))
	}
	return all
}

func firstOf[T any](list []T, n int) []T { return list[:min(n, len(list))] }

func everyText() []string {
	all := append(slices.Concat(noNumbers(), fewOdd(), deskLines(), rightPaths(), firstOf(noPaths(), 20)), "age", "vary", "etag", "lang", "cache-control", "if-none-match", "content-length", "*", "-", "no-store, max-age=5", "Private,no-cache", "max-age=x")
	for i, text := range slices.Concat(someTexts(), someChunks(), someRecs()) {
		if i%7 == 0 {
			all = append(all, text, text[:len(text)/2], text+"x")
		}
	}
	for _, o := range someObjs() {
		all = append(all, impl.ObjText(o), impl.RecText(3, impl.ObjText(o)))
	}
	for i, b := range someBans() {
		all = append(all, impl.BanText(b), impl.RecText(4+i, impl.BanText(b)))
	}
	for number := range uint32(20) {
		all = append(all, linesOf(deskRow(number, 10+int(number)*4)...))
	}
	long := []string{strings.Repeat("x", 5000), strings.Repeat(" ", 5000), strings.Repeat(",", 5000), strings.Repeat("\n", 5000), strings.Repeat("\r\n", 2500), strings.Repeat("a: b\r\n", 900), strings.Repeat("1\r\na\r\n", 700), strings.Repeat("\xff", 5000)}
	return append(all, long...)
}

func everyNumber() []int {
	return append(append(anyTimes(), farNumbers()...), 0, 1, 2, 3, 4, 5, 6, 7, 8, 12, 19, 20, 60, 120, 200, 304, 599, 600, 1200, 1500, 2000, 99999, 100000, 100001, 1000000, 1000001, -1, -5, math.MinInt, math.MaxInt)
}

func newLot(number uint32) *lot {
	l := &lot{number: number, few: map[reflect.Type][]reflect.Value{}, known: map[reflect.Type][]reflect.Value{}}
	for _, list := range fewOfEach() {
		l.few[list[0].Type()] = list
	}
	for _, list := range manyOfEach() {
		l.known[list[0].Type()] = list
	}
	return l
}

// fewOfEach are such that one of them may well suit another one.
func fewOfEach() [][]reflect.Value {
	return [][]reflect.Value{
		valuesOfAll([]string{"/a", "de", "lang", "etag", "v10", "no-store, max-age=5", "5", impl.ReqText(asks()), impl.RespText(keepable(5)), "get 5 /a de"}),
		valuesOfAll([]int{0, 1, 5, 10, 12}),
		valuesOfAll([][]impl.Field{fieldsOf("etag", "v10"), fieldsOf("lang", "de"), fieldsOf("cache-control", "max-age=5", "vary", "lang", "etag", "v10")}),
		valuesOfAll([]impl.Req{asks(), asksIn("/a", "de"), asks("lang", "de", "if-none-match", "v10")}),
		valuesOfAll([]impl.Resp{keepable(5), speaks("/a", "de", 10).Resp, same304()}),
		valuesOfAll([]impl.Obj{speaks("/a", "de", 10), speaks("/b", "de", 3), plain("/a", 4)}),
		valuesOfAll([]impl.Ban{banPath("/a", 12), banBelow("/", 5), banField("etag", "v10", 10)}),
		valuesOfAll([][]impl.Ban{{banPath("/a", 12), banBelow("/", 5)}}),
		valuesOfAll([]impl.Disk{busy().Shelf.Disk, impl.DiskNew()}),
		valuesOfAll([]impl.Shelf{busy().Shelf, keptAll(speaks("/a", "de", 10)), impl.ShelfNew()}),
		valuesOfAll([]impl.Cache{busy(), judged(), impl.CacheNew()}),
		valuesOfAll([]impl.Deed{askDeed(5, asksIn("/a", "de")), replyDeed(0, keepable(5)), tickDeed(1)}),
	}
}

func manyOfEach() [][]reflect.Value {
	return [][]reflect.Value{
		valuesOfAll(everyText()),
		valuesOfAll(everyNumber()),
		valuesOfAll([][]impl.Field{nil, {}, make([]impl.Field, 3)}, messageLists(), oddLists(), controlLists(), varyLists()),
		valuesOfAll(firstOf(rightReqs(), 200), wrongReqs(), decidedReqs(), keepingReqs()),
		valuesOfAll(firstOf(rightResps(), 200), wrongResps(), keepingResps()),
		valuesOfAll(startStreams()),
		valuesOfAll(rightCcs(), []impl.Cc{{}, {HasAge: true, Age: math.MinInt}}),
		valuesOfAll(someObjs(), wrongObjs(), decidedObjs(), []impl.Obj{longestObj()}),
		valuesOfAll(someBans(), wrongBans()),
		valuesOfAll([][]impl.Ban{nil, {}, manyBans(3), manyBans(6), someBans(), wrongBans()}),
		valuesOfAll(rightDisks(), wrongDisks()),
		valuesOfAll(rightShelves(), wrongShelves(), writtenShelves()),
		valuesOfAll(someDeeds()),
		valuesOfAll([][]impl.Deed{nil, {}, deedRow(1, 30), deedRow(2, 60), judgeRow(3, 60), make([]impl.Deed, 200), make([]impl.Deed, 201)}),
		valuesOfAll(judged().Sent, []impl.Reply{{}, replied(9), replied(1, "age", "3")}),
		valuesOfAll(firstOf(rightCaches(), 12), movedCaches(), firstOf(wrongCaches(), 6), []impl.Cache{bannedSince(), withLists(busy(), 3, 40)}),
	}
}

func (l *lot) below(n int) int {
	l.number = l.number*1664525 + 1013904223
	return int(l.number>>8) % n
}

func (l *lot) draw(of reflect.Type) reflect.Value {
	isPlain := of.Kind() == reflect.String || of.Kind() == reflect.Int
	for _, list := range [][]reflect.Value{l.few[of], l.known[of]} {
		if len(list) > 0 && l.below(3) > 0 {
			return list[l.below(len(list))]
		}
	}
	if list := l.known[of]; isPlain {
		return list[l.below(len(list))]
	}
	out := reflect.New(of).Elem()
	switch of.Kind() {
	case reflect.Bool:
		out.SetBool(l.below(2) > 0)
	case reflect.Struct:
		for i := range of.NumField() {
			out.Field(i).Set(l.draw(of.Field(i).Type))
		}
	case reflect.Slice:
		n := []int{0, 0, 1, 1, 2, 3, 5, 9}[l.below(8)]
		if kind := of.Elem().Kind(); kind != reflect.Struct {
			n = []int{0, 1, 2, 3, 5, 17, 20, 300}[l.below(8)]
		}
		for range n {
			out = reflect.Append(out, l.draw(of.Elem()))
		}
	}
	return out
}

// ask calls a function, and tells what it panics with, if it does.
func ask(f reflect.Value, arguments []reflect.Value) (answers []reflect.Value, thrown any) {
	defer func() { thrown = recover() }()
	return f.Call(arguments), nil
}

func textOfAll(list []reflect.Value, textOf func(v any) string) string {
	var out strings.Builder
	for _, one := range list {
		out.WriteString(textOf(one.Interface()) + "|")
	}
	return out.String()
}

// plainText does not tell how much room there is behind a list, nor whether an
// empty one is nil.
func plainText(v any) string { return fmt.Sprintf("%+v", v) }

func bySpan(a, b span) int { return cmp.Compare(a.first, b.first) }

// sharing tells what an answer shares with what was handed in, or with itself.
func sharing(answers, arguments []reflect.Value) string {
	var givenTexts, texts []string
	var givenSpans, spans []span
	for _, one := range arguments {
		t, s := partsTextsAndSpans(one.Interface())
		givenTexts, givenSpans = append(givenTexts, t...), append(givenSpans, s...)
	}
	for _, one := range answers {
		t, s := partsTextsAndSpans(one.Interface())
		texts, spans = append(texts, t...), append(spans, s...)
	}
	isNothing := func(one span) bool { return one.first == one.behind }
	spans, givenSpans = slices.DeleteFunc(spans, isNothing), slices.DeleteFunc(givenSpans, isNothing)
	slices.SortFunc(spans, bySpan)
	slices.SortFunc(givenSpans, bySpan)
	for i, one := range spans {
		if meetsAny(one, givenSpans) {
			return "a list shares memory with an argument"
		}
		if i > 0 && one.meets(spans[i-1]) {
			return "two lists share memory"
		}
	}
	given := textSpans(givenTexts)
	for _, one := range textSpans(texts) {
		if meetsAny(one, given) {
			return "a text shares memory with an argument"
		}
	}
	runtime.KeepAlive(texts)
	runtime.KeepAlive(givenTexts)
	return ""
}

func roomyAll(list []reflect.Value) []reflect.Value {
	all := make([]reflect.Value, len(list))
	for i, one := range list {
		all[i] = roomyPart(one)
	}
	return all
}

// checkPromise21 asks once with lists that have no room, and may be nil, and
// twice with ones that have some, with what was told first turned between.
func checkPromise21(t *testing.T, name string, f reflect.Value, drawn []reflect.Value) []reflect.Value {
	t.Helper()
	first, thrown := ask(f, drawn)
	if thrown != nil {
		t.Fatalf("%s of %s panics: %v", name, inShort(textOfAll(drawn, plainText)), thrown)
	}
	want := textOfAll(first, plainText)
	arguments := roomyAll(drawn)
	before := textOfAll(arguments, partsText)
	for range 2 {
		answers, thrown := ask(f, arguments)
		if told := textOfAll(answers, plainText); thrown != nil || told != want {
			t.Fatalf("%s of %s tells %s, %v, and told %s", name, inShort(textOfAll(drawn, plainText)), inShort(told), thrown, inShort(want))
		}
		if what := sharing(answers, arguments); what != "" {
			t.Fatalf("of what %s of %s tells %s", name, inShort(textOfAll(drawn, plainText)), what)
		}
		for _, one := range answers {
			turnParts(one.Interface())
		}
		if after := textOfAll(arguments, partsText); after != before {
			t.Fatalf("%s writes into %s: %s", name, inShort(before), inShort(after))
		}
	}
	return first
}

func typesOf(f reflect.Type) []reflect.Type {
	var all []reflect.Type
	for i := range f.NumIn() {
		all = append(all, f.In(i))
	}
	return all
}

func TestPromise21OfAnyArguments(t *testing.T) {
	l := newLot(21)
	for _, name := range slices.Sorted(maps.Keys(everyFunction())) {
		f := reflect.ValueOf(everyFunction()[name])
		told := map[string]bool{}
		times := 400
		if kinds := typesOf(f.Type()); slices.Contains(kinds, reflect.TypeFor[impl.Cache]()) {
			times = 120
		}
		for range times {
			var drawn []reflect.Value
			for _, kind := range typesOf(f.Type()) {
				drawn = append(drawn, l.draw(kind))
			}
			told[textOfAll(checkPromise21(t, name, f, drawn), plainText)] = true
		}
		if f.Type().NumIn() > 0 && len(told) < 2 {
			t.Errorf("%s tells nothing but %v", name, told)
		}
	}
}

func TestPromise21OfZeroValues(t *testing.T) {
	for name, one := range everyFunction() {
		f := reflect.ValueOf(one)
		var zeros, empties []reflect.Value
		for _, kind := range typesOf(f.Type()) {
			zeros = append(zeros, reflect.Zero(kind))
			empties = append(empties, roomyPart(reflect.Zero(kind)))
		}
		want := textOfAll(checkPromise21(t, name, f, zeros), plainText)
		if told := textOfAll(checkPromise21(t, name, f, empties), plainText); told != want {
			t.Errorf("%s tells %s of empty lists, and %s of nil", name, told, want)
		}
	}
}

// Each argument by itself at every number, and with every text, beside others
// that are right.
func TestPromise21OfEachNumberAndText(t *testing.T) {
	l := newLot(2121)
	for name, one := range everyFunction() {
		f := reflect.ValueOf(one)
		kinds := typesOf(f.Type())
		for at, kind := range kinds {
			if kind.Kind() != reflect.Int && kind.Kind() != reflect.String {
				continue
			}
			for _, value := range l.known[kind] {
				drawn := make([]reflect.Value, len(kinds))
				for i, other := range kinds {
					drawn[i] = reflect.Zero(other)
					if list := l.known[other]; len(list) > 0 {
						drawn[i] = list[min(1, len(list)-1)]
					}
				}
				drawn[at] = value
				checkPromise21(t, name, f, drawn)
			}
		}
	}
}

func TestPromise21OfLongLists(t *testing.T) {
	long := strings.Repeat("x", 5000)
	fields := append(make([]impl.Field, 500), fieldsOf(long, long, "age", long, "vary", strings.Repeat("a,", 2000), "cache-control", strings.Repeat("max-age=1,", 500))...)
	q := impl.Req{Method: math.MinInt, Path: "/" + long, Fields: fields, Body: long}
	r := impl.Resp{Status: math.MaxInt, Fields: fields, Body: long}
	o := impl.Obj{Path: long, Names: make([]string, 3000), Values: make([]string, 2999), Resp: r, T: math.MinInt}
	texts := slices.Repeat([]string{long[:9], "", " "}, 500)
	kept := impl.Kept{Obj: o, At: math.MaxInt, Seq: math.MinInt}
	disk := impl.Disk{Cells: texts, Pending: make([]impl.Write, 2000)}
	bans := slices.Repeat([]impl.Ban{{Kind: math.MaxInt, A: long, B: long, T: math.MinInt}}, 50)
	shelf := impl.Shelf{Disk: disk, Objs: []impl.Kept{kept, kept}, Bans: bans, Next: math.MinInt, Seq: math.MaxInt}
	reply := impl.Reply{Client: math.MinInt, Q: q, Resp: r, Kind: impl.AnHere, T: math.MaxInt, Obj: o, Bans: math.MaxInt}
	deed := impl.Deed{Kind: impl.CaReply, Client: math.MinInt, Q: q, A: math.MaxInt, Resp: r, Ban: bans[0], Keep: make([]bool, 3000)}
	cache := impl.Cache{Shelf: shelf, Flights: []impl.Flight{{Q: q, Who: make([]int, 3000), Old: o, HasOld: true}}, Now: math.MaxInt, Seen: []impl.Seen{{Q: q, Resp: r, T: math.MinInt}}, Sent: []impl.Reply{reply}}
	great := map[reflect.Type]reflect.Value{}
	for _, one := range []any{long, math.MinInt, true, texts, make([]int, 3000), make([]bool, 3000), fields, q, r, impl.Stream{Wait: long}, impl.Cc{HasAge: true, Age: math.MaxInt}, o, bans[0], bans, disk, shelf, cache, deed, slices.Repeat([]impl.Deed{deed}, 3), reply} {
		great[reflect.TypeOf(one)] = reflect.ValueOf(one)
	}
	for name, one := range everyFunction() {
		f := reflect.ValueOf(one)
		var drawn []reflect.Value
		for _, kind := range typesOf(f.Type()) {
			if !great[kind].IsValid() {
				t.Fatalf("%s takes a %s, of which there is none", name, kind)
			}
			drawn = append(drawn, great[kind])
		}
		checkPromise21(t, name, f, drawn)
	}
}

// All functions asked beside each other, of the same arguments.
func TestPromise21AtTheSameTime(t *testing.T) {
	l := newLot(212121)
	type call struct {
		name  string
		f     reflect.Value
		drawn []reflect.Value
		want  string
	}
	var calls []call
	for _, name := range slices.Sorted(maps.Keys(everyFunction())) {
		f := reflect.ValueOf(everyFunction()[name])
		for range 8 {
			one := call{name: name, f: f}
			for _, kind := range typesOf(f.Type()) {
				one.drawn = append(one.drawn, l.draw(kind))
			}
			answers, _ := ask(f, one.drawn)
			one.want = textOfAll(answers, plainText)
			calls = append(calls, one)
		}
	}
	told := make([]string, 2*len(calls))
	start := make(chan struct{})
	var joined sync.WaitGroup
	for i := range told {
		joined.Go(func() {
			<-start
			one := calls[i%len(calls)]
			answers, thrown := ask(one.f, one.drawn)
			if told[i] = textOfAll(answers, plainText); thrown != nil {
				told[i] = fmt.Sprint(thrown)
			}
		})
	}
	close(start)
	joined.Wait()
	for i, got := range told {
		if one := calls[i%len(calls)]; got != one.want {
			t.Fatalf("%s of %s tells %s, not %s", one.name, inShort(textOfAll(one.drawn, plainText)), inShort(got), inShort(one.want))
		}
	}
}
