package mark

import (
	"fmt"
	"math"
	"slices"
	"strings"
	"testing"

	"commonbook/api"
	"commonbook/doc"
	"commonbook/plain"
)

var root = api.Id{}

func oid(num, actor int) api.Id { return api.Id{Num: num, Actor: actor} }

// refs of numbers: an actor, a Seq, and so on.
func refs(n ...int) (l []api.Ref) {
	for i := 0; i < len(n); i += 2 {
		l = append(l, api.Ref{Actor: n[i], Seq: n[i+1]})
	}
	return l
}

func truth(n int) api.Value { return api.Value{Kind: api.Truth, Num: n} }

func number(n int) api.Value { return api.Value{Kind: api.Number, Num: n} }

func count(n int) api.Value { return api.Value{Kind: api.Count, Num: n} }

func text(s string) api.Value { return api.Value{Kind: api.Text, Text: s} }

func object(kind int, a api.Id) api.Value { return api.Value{Kind: kind, Obj: a} }

func numbers(n ...int) (l []api.Value) {
	for _, i := range n {
		l = append(l, number(i))
	}
	return l
}

func must(t testing.TB, err error) {
	t.Helper()
	if err != nil {
		t.Fatal(err)
	}
}

// made is for calls that give the id of what they make.
func made(t testing.TB) func(api.Id, error) api.Id {
	return func(a api.Id, err error) api.Id {
		t.Helper()
		must(t, err)
		return a
	}
}

func hand(t testing.TB, actor int) *doc.Doc {
	t.Helper()
	d, err := doc.New(actor)
	must(t, err)
	return d
}

func fork(t testing.TB, d *doc.Doc, actor int) *doc.Doc {
	t.Helper()
	f, err := d.Fork(actor)
	must(t, err)
	return f
}

func merge(t testing.TB, d, o *doc.Doc) {
	t.Helper()
	_, err := d.Merge(o)
	must(t, err)
}

// all gives a hand's changes, with what was pending.
func all(t testing.TB, d *doc.Doc) []api.Change {
	t.Helper()
	if d.Pending() > 0 {
		_, err := d.Commit()
		must(t, err)
	}
	return d.All()
}

// listed is a hand, actor 1, with a list 1@1 at l; its elements are 2@1, 3@1 and so on.
func listed(t testing.TB, values ...api.Value) *doc.Doc {
	t.Helper()
	d := hand(t, 1)
	l := made(t)(d.Make(root, "l", api.List))
	for i, v := range values {
		must(t, d.Insert(l, i, v))
	}
	all(t, d)
	return d
}

// the list of listed.
var list = oid(1, 1)

// elem is the element of listed that had an index at first.
func elem(at int) api.Id { return oid(2+at, 1) }

// next is a change of another actor behind all of l.
func next(l []api.Change, actor int, ops ...api.Op) api.Change {
	c := api.Change{Actor: actor, Seq: 1, Start: 1, Ops: ops}
	last := map[int]int{}
	for _, x := range l {
		last[x.Actor] = max(last[x.Actor], x.Seq)
		c.Start = max(c.Start, x.Start+len(x.Ops))
	}
	c.Seq += last[actor]
	for a := 1; a <= api.MaxActor; a++ {
		if last[a] > 0 {
			c.Deps = append(c.Deps, api.Ref{Actor: a, Seq: last[a]})
		}
	}
	return c
}

// with gives changes with one more.
func with(l []api.Change, c api.Change) []api.Change { return append(slices.Clone(l), c) }

func insert(obj, behind api.Id, v api.Value) api.Op {
	return api.Op{Kind: api.Put, Obj: obj, Elem: behind, Insert: true, Value: v}
}

func set(obj, elem api.Id, v api.Value, preds ...api.Id) api.Op {
	return api.Op{Kind: api.Put, Obj: obj, Elem: elem, Value: v, Preds: preds}
}

func del(obj, elem api.Id, preds ...api.Id) api.Op {
	return api.Op{Kind: api.Del, Obj: obj, Elem: elem, Preds: preds}
}

// thing is an element of a list, and its value, or none.
type thing struct {
	elem   api.Id
	values []api.Value
}

func has(elem api.Id, v api.Value) thing { return thing{elem: elem, values: []api.Value{v}} }

func gone(elem api.Id) thing { return thing{elem: elem} }

func wantCursor(t testing.TB, what string, l []api.Change, obj api.Id, at int, want api.Id) {
	t.Helper()
	if got, err := Cursor(l, obj, at); got != want || err != nil {
		t.Errorf("%s: Cursor of %v at %d: got %v, %v, want %v", what, obj, at, got, err, want)
	}
}

func wantNoCursor(t testing.TB, what string, l []api.Change, obj api.Id, at int, want api.Errno) {
	t.Helper()
	if got, err := Cursor(l, obj, at); got != root || plain.Told(err) != want {
		t.Errorf("%s: Cursor of %v at %d: got %v, %v, want %v", what, obj, at, got, err, want)
	}
}

func wantWhere(t testing.TB, what string, l []api.Change, obj, cursor api.Id, want int) {
	t.Helper()
	if got, err := Where(l, obj, cursor); got != want || err != nil {
		t.Errorf("%s: Where in %v of %v: got %d, %v, want %d", what, obj, cursor, got, err, want)
	}
}

func wantNoWhere(t testing.TB, what string, l []api.Change, obj, cursor api.Id, want api.Errno) {
	t.Helper()
	if got, err := Where(l, obj, cursor); got != 0 || plain.Told(err) != want {
		t.Errorf("%s: Where in %v of %v: got %d, %v, want %v", what, obj, cursor, got, err, want)
	}
}

func wantSpan(t testing.TB, what string, l []api.Change, obj, from, to api.Id, want []api.Value) {
	t.Helper()
	if got, err := Span(l, obj, from, to); !slices.Equal(got, want) || err != nil {
		t.Errorf("%s: Span in %v from %v to %v: got %v, %v, want %v", what, obj, from, to, got, err, want)
	}
}

func wantNoSpan(t testing.TB, what string, l []api.Change, obj, from, to api.Id, want api.Errno) {
	t.Helper()
	if got, err := Span(l, obj, from, to); got != nil || plain.Told(err) != want {
		t.Errorf("%s: Span in %v from %v to %v: got %v, %v, want %v", what, obj, from, to, got, err, want)
	}
}

// wantRow holds all three calls against a list as it stands, by the words of the chapter.
func wantRow(t testing.TB, what string, l []api.Change, obj api.Id, row []thing) {
	t.Helper()
	wantMarks(t, what, l, obj, row)
	for from := range len(row) + 1 {
		for to := range len(row) + 1 {
			wantSpanOf(t, what, l, obj, row, from, to)
		}
	}
}

// wantMarks asks for each element, and the end.
func wantMarks(t testing.TB, what string, l []api.Change, obj api.Id, row []thing) {
	t.Helper()
	at := 0
	for _, x := range row {
		wantWhere(t, what, l, obj, x.elem, at)
		if len(x.values) > 0 {
			wantCursor(t, what, l, obj, at, x.elem)
			at++
		}
	}
	wantCursor(t, what, l, obj, at, root)
	wantWhere(t, what, l, obj, root, at)
	for _, none := range []int{-1, at + 1, at + 2, math.MinInt, math.MaxInt} {
		wantNoCursor(t, what, l, obj, none, api.ErrRange)
	}
}

// wantSpanOf asks from one element to another; one more than there are is the end.
func wantSpanOf(t testing.TB, what string, l []api.Change, obj api.Id, row []thing, from, to int) {
	t.Helper()
	ends := append(slices.Clone(row), gone(root))
	wantSpan(t, what, l, obj, ends[from].elem, ends[to].elem, valuesOf(row, from, to))
}

// valuesOf gives the first value of each thing from one on, up to ahead of another one.
func valuesOf(row []thing, from, to int) (l []api.Value) {
	for i := from; i < to; i++ {
		l = append(l, row[i].values[:min(1, len(row[i].values))]...)
	}
	return l
}

// M1: a list without an element has its end alone.
func TestEmptyList(t *testing.T) {
	l := all(t, listed(t))
	wantRow(t, "empty", l, list, nil)
	wantCursor(t, "empty", l, list, 0, root)
	wantWhere(t, "empty", l, list, root, 0)
	wantSpan(t, "empty", l, list, root, root, nil)
	wantNoCursor(t, "empty", l, list, 1, api.ErrRange)
	wantNoCursor(t, "empty", l, list, -1, api.ErrRange)
}

// M1: a list of one element.
func TestOneElement(t *testing.T) {
	l := all(t, listed(t, number(7)))
	wantRow(t, "one", l, list, []thing{has(elem(0), number(7))})
	wantCursor(t, "one", l, list, 0, oid(2, 1))
	wantCursor(t, "one", l, list, 1, root)
	wantWhere(t, "one", l, list, oid(2, 1), 0)
	wantWhere(t, "one", l, list, root, 1)
	wantSpan(t, "one", l, list, oid(2, 1), root, numbers(7))
	wantSpan(t, "one", l, list, oid(2, 1), oid(2, 1), nil)
	wantSpan(t, "one", l, list, root, oid(2, 1), nil)
}

// M1: a list of many elements, each of another kind.
func TestManyElements(t *testing.T) {
	values := []api.Value{{}, truth(0), number(math.MinInt), text(""), count(-4), text(strings.Repeat("\xff", 60)), truth(1), number(math.MaxInt)}
	l := all(t, listed(t, values...))
	var row []thing
	for i, v := range values {
		row = append(row, has(elem(i), v))
	}
	wantRow(t, "many", l, list, row)
	wantCursor(t, "many", l, list, 3, oid(5, 1))
	wantWhere(t, "many", l, list, oid(5, 1), 3)
	wantSpan(t, "many", l, list, oid(3, 1), oid(6, 1), values[1:4])
	wantSpan(t, "many", l, list, oid(6, 1), oid(3, 1), nil)
	wantSpan(t, "many", l, list, oid(2, 1), root, values)
}

// M1: the order of a list is chapter 7's, not that of ids, nor that in which elements were put in.
func TestElementsInOrder(t *testing.T) {
	d := hand(t, 1)
	a := made(t)(d.Make(root, "l", api.List))
	for i := range 4 {
		must(t, d.Insert(a, 0, number(i)))
	}
	must(t, d.Insert(a, 2, number(9)))
	l := all(t, d)
	wantRow(t, "each at the head", l, a, []thing{
		has(oid(5, 1), number(3)), has(oid(4, 1), number(2)), has(oid(6, 1), number(9)), has(oid(3, 1), number(1)), has(oid(2, 1), number(0)),
	})
	wantSpan(t, "each at the head", l, a, oid(4, 1), oid(2, 1), numbers(2, 9, 1))

	// 2@1 inserts 5 at the head; 2@2, not knowing of it, inserts 6.
	both := []api.Change{listed(t).All()[0]}
	both = append(both, next(both, 1, insert(list, root, number(5))), next(both, 2, insert(list, root, number(6))))
	wantRow(t, "at the same time", both, list, []thing{has(oid(2, 2), number(6)), has(oid(2, 1), number(5))})
}

// taken is listed with 0, 1, .. of which some are removed, in their order.
func taken(t testing.TB, many int, away ...int) ([]api.Change, []thing) {
	t.Helper()
	var values []api.Value
	var row []thing
	for i := range many {
		values = append(values, number(i))
		row = append(row, has(elem(i), number(i)))
	}
	l := all(t, listed(t, values...))
	for _, at := range away {
		l = append(l, next(l, 2, del(list, elem(at), elem(at))))
		row[at] = gone(elem(at))
	}
	return l, row
}

// M1: elements that were taken away, wherever they stand.
func TestTakenAway(t *testing.T) {
	for _, away := range [][]int{
		{0}, {3}, {6}, {0, 1}, {3, 4}, {5, 6}, {0, 6}, {1, 3, 5}, {0, 2, 4, 6}, {6, 5, 4, 3}, {0, 1, 2, 3, 4, 5}, {1, 2, 3, 4, 5, 6}, {0, 1, 2, 3, 4, 5, 6}, {6, 0, 5, 1, 4, 2, 3},
	} {
		l, row := taken(t, 7, away...)
		wantRow(t, fmt.Sprint("without ", away), l, list, row)
	}
	for many := range 4 {
		l, row := taken(t, many, []int{0, 1, 2}[:many]...)
		wantRow(t, fmt.Sprint("all of ", many), l, list, row)
		wantCursor(t, "all are gone", l, list, 0, root)
		wantNoCursor(t, "all are gone", l, list, 1, api.ErrRange)
	}
}

// M1: the same, said number by number.
func TestTakenAwayByNumbers(t *testing.T) {
	l, _ := taken(t, 7, 0, 2, 3, 6)
	for at, want := range []api.Id{elem(1), elem(4), elem(5), root} {
		wantCursor(t, "1, 4 and 5 are left", l, list, at, want)
	}
	wantNoCursor(t, "1, 4 and 5 are left", l, list, 4, api.ErrRange)
	// An element that is gone is where the first one behind it is that has a value, or the end.
	for i, want := range []int{0, 0, 1, 1, 1, 2, 3} {
		wantWhere(t, "1, 4 and 5 are left", l, list, elem(i), want)
	}
	wantWhere(t, "1, 4 and 5 are left", l, list, root, 3)
	for _, c := range []struct {
		from, to api.Id
		want     []api.Value
	}{
		{elem(0), root, numbers(1, 4, 5)},
		{elem(1), elem(4), numbers(1)},
		{elem(1), elem(3), numbers(1)},
		{elem(2), elem(3), nil},
		{elem(3), elem(2), nil},
		{elem(2), elem(4), nil},
		{elem(3), elem(5), numbers(4)},
		{elem(0), elem(6), numbers(1, 4, 5)},
		{elem(2), elem(6), numbers(4, 5)},
		{elem(6), root, nil},
		{elem(6), elem(6), nil},
		{elem(3), elem(3), nil},
		{elem(5), elem(3), nil},
		{root, elem(6), nil},
		{elem(4), elem(2), nil},
	} {
		wantSpan(t, "1, 4 and 5 are left", l, list, c.from, c.to, c.want)
	}
}

// M1: an element that has a value anew stands where it stood.
func TestPutAnew(t *testing.T) {
	for at := range 3 {
		l, row := taken(t, 3, 0, 1, 2)
		l = append(l, next(l, 3, set(list, elem(at), number(8))))
		row[at] = has(elem(at), number(8))
		wantRow(t, "all were gone", l, list, row)
		wantCursor(t, "all were gone", l, list, 0, elem(at))

		l, row = taken(t, 3, at)
		l = append(l, next(l, 3, set(list, elem(at), text("anew"))))
		row[at] = has(elem(at), text("anew"))
		wantRow(t, "one was gone", l, list, row)
		wantWhere(t, "one was gone", l, list, elem(at), at)

		again := oid(l[len(l)-1].Start, 3)
		l = append(l, next(l, 1, del(list, elem(at), again)))
		row[at] = gone(elem(at))
		wantRow(t, "gone again", l, list, row)
	}

	// Put by one hand while another one takes it away.
	d := listed(t, number(0), number(1), number(2))
	e := fork(t, d, 2)
	must(t, d.Remove(list, 1))
	must(t, e.Set(list, 1, number(8)))
	wantRow(t, "away", all(t, d), list, []thing{has(elem(0), number(0)), gone(elem(1)), has(elem(2), number(2))})
	all(t, e)
	merge(t, d, e)
	wantRow(t, "put at the same time", all(t, d), list, []thing{has(elem(0), number(0)), has(elem(1), number(8)), has(elem(2), number(2))})
}

// M1: an element with several values is one, and the first of them counts.
func TestSeveralValues(t *testing.T) {
	d := listed(t, number(0), number(1), number(2))
	e, f := fork(t, d, 2), fork(t, d, 3)
	must(t, d.Set(list, 1, text("one")))
	must(t, e.Set(list, 1, text("two")))
	must(t, f.Set(list, 1, text("three")))
	must(t, f.Remove(list, 2))
	for _, o := range []*doc.Doc{e, f} {
		all(t, o)
		all(t, d)
		merge(t, d, o)
	}
	l := all(t, d)
	wantRow(t, "three values", l, list, []thing{
		has(elem(0), number(0)), {elem(1), []api.Value{text("three"), text("two"), text("one")}}, gone(elem(2)),
	})
	wantSpan(t, "three values", l, list, elem(0), root, []api.Value{number(0), text("three")})
	wantWhere(t, "three values", l, list, elem(2), 2)
	wantCursor(t, "three values", l, list, 1, elem(1))

	// One hand takes its own value away: two are left; and at last none.
	l = append(l, next(l, 4, del(list, elem(1), oid(5, 3))))
	wantSpan(t, "two values", l, list, elem(1), root, []api.Value{text("two")})
	l = append(l, next(l, 4, del(list, elem(1), oid(5, 1), oid(5, 2))))
	wantRow(t, "no value", l, list, []thing{has(elem(0), number(0)), gone(elem(1)), gone(elem(2))})
}

// M1: a value that was set anew is that of the same element, and its op's id is no cursor.
func TestSet(t *testing.T) {
	d := listed(t, number(0), number(1), count(5))
	must(t, d.Set(list, 1, text("new")))
	must(t, d.AddAt(list, 2, -7))
	l := all(t, d)
	wantRow(t, "set", l, list, []thing{has(elem(0), number(0)), has(elem(1), text("new")), has(elem(2), count(-2))})
	wantCursor(t, "set", l, list, 1, oid(3, 1))
	for _, a := range []api.Id{oid(5, 1), oid(6, 1)} {
		wantNoWhere(t, "the op that set it", l, list, a, api.ErrNone)
	}
	// Counts go round.
	must(t, d.Set(list, 0, count(math.MaxInt)))
	must(t, d.AddAt(list, 0, 1))
	wantSpan(t, "counts", all(t, d), list, elem(0), elem(1), []api.Value{count(math.MinInt)})
}

// M1: a text as a list, rune by rune.
func TestText(t *testing.T) {
	d := listed(t)
	for i, r := range []rune("aé b☃𝄞") {
		must(t, d.Insert(list, i, text(string(r))))
	}
	l := all(t, d)
	var row []thing
	for i, r := range []rune("aé b☃𝄞") {
		row = append(row, has(elem(i), text(string(r))))
	}
	wantRow(t, "text", l, list, row)
	from, err := Cursor(l, list, 1)
	must(t, err)
	to, err := Cursor(l, list, 4)
	must(t, err)
	wantSpan(t, "text", l, list, from, to, []api.Value{text("é"), text(" "), text("b")})

	must(t, d.Insert(list, 0, text("x")))
	must(t, d.Remove(list, 3))
	must(t, d.Insert(list, 3, text("-")))
	must(t, d.Insert(list, 5, text("y")))
	l = all(t, d)
	wantSpan(t, "text, written on", l, list, from, to, []api.Value{text("é"), text("-"), text("b"), text("y")})
	wantWhere(t, "text, written on", l, list, from, 2)
	wantWhere(t, "text, written on", l, list, to, 6)
}

// M1: lists in maps and in lists, each with elements of its own.
func TestListsWithin(t *testing.T) {
	d := hand(t, 1)
	m := made(t)(d.Make(root, "m", api.Map))      // 1@1
	in := made(t)(d.Make(m, "l", api.List))       // 2@1
	a := made(t)(d.InsertNew(in, 0, api.List))    // 3@1
	b := made(t)(d.InsertNew(in, 1, api.Map))     // 4@1
	must(t, d.Insert(a, 0, number(1)))            // 5@1
	must(t, d.Insert(a, 1, number(2)))            // 6@1
	deep := made(t)(d.Make(b, "deep", api.List))  // 7@1
	must(t, d.Insert(deep, 0, text("deep")))      // 8@1
	last := made(t)(d.InsertNew(in, 2, api.List)) // 9@1
	l := all(t, d)
	wantRow(t, "in a map", l, in, []thing{has(oid(3, 1), object(api.List, a)), has(oid(4, 1), object(api.Map, b)), has(oid(9, 1), object(api.List, last))})
	wantRow(t, "in a list", l, a, []thing{has(oid(5, 1), number(1)), has(oid(6, 1), number(2))})
	wantRow(t, "in a map in a list", l, deep, []thing{has(oid(8, 1), text("deep"))})
	wantRow(t, "an empty one in a list", l, last, nil)
	// A list is an element of the one that it is in, and no element of itself.
	wantWhere(t, "a list as a cursor", l, in, last, 2)
	wantNoWhere(t, "a list as its own cursor", l, last, last, api.ErrNone)
	wantNoSpan(t, "a list as its own cursor", l, a, a, root, api.ErrNone)
}

// M1: a list that was taken away, or hidden by another value, or whose map was, is there still.
func TestListTakenAway(t *testing.T) {
	d := listed(t, number(0), number(1))
	must(t, d.Del(root, "l"))
	row := []thing{has(elem(0), number(0)), has(elem(1), number(1))}
	wantRow(t, "taken away", all(t, d), list, row)
	must(t, d.Remove(list, 0))
	must(t, d.Put(root, "l", text("other")))
	row[0] = gone(elem(0))
	wantRow(t, "another value", all(t, d), list, row)

	d = hand(t, 1)
	m := made(t)(d.Make(root, "m", api.Map))
	a := made(t)(d.Make(m, "l", api.List))
	must(t, d.Insert(a, 0, number(5)))
	in := made(t)(d.InsertNew(a, 1, api.List))
	must(t, d.Insert(in, 0, number(6)))
	must(t, d.Remove(a, 1))
	must(t, d.Del(root, "m"))
	l := all(t, d)
	wantRow(t, "its map was taken away", l, a, []thing{has(oid(3, 1), number(5)), gone(in)})
	wantRow(t, "its element was taken away", l, in, []thing{has(oid(5, 1), number(6))})
}

// M1: Cursor gives what Where takes, and both are one at every index.
func TestThereAndBack(t *testing.T) {
	l, _ := taken(t, 20, 0, 3, 4, 5, 11, 18, 19)
	for at := range 14 {
		a, err := Cursor(l, list, at)
		must(t, err)
		wantWhere(t, "there and back", l, list, a, at)
		wantSpan(t, "there and back", l, list, a, a, nil)
	}
}

// full is a book as full as may be: a list, and all other ops elements of it, each behind the one that behind tells.
func full(behind func(num int) api.Id) (l []api.Change) {
	for seq := range api.MaxChanges {
		c := api.Change{Actor: 1, Seq: seq + 1, Start: seq*api.MaxOps + 1}
		if seq > 0 {
			c.Deps = refs(1, seq)
		}
		for i := range api.MaxOps {
			num := c.Start + i
			op := insert(list, behind(num), number(num))
			if num == 1 {
				op = api.Op{Kind: api.Make, Key: "l", Value: api.Value{Kind: api.List}}
			}
			c.Ops = append(c.Ops, op)
		}
		l = append(l, c)
	}
	return l
}

// M1: a book as full as may be.
func TestFullBook(t *testing.T) {
	const many = api.MaxChanges*api.MaxOps - 1
	l := full(func(num int) api.Id {
		if num == 2 {
			return root
		}
		return oid(num-1, 1)
	})
	wantCursor(t, "each behind the last", l, list, 0, oid(2, 1))
	wantCursor(t, "each behind the last", l, list, many-1, oid(many+1, 1))
	wantCursor(t, "each behind the last", l, list, many, root)
	wantNoCursor(t, "each behind the last", l, list, many+1, api.ErrRange)
	wantWhere(t, "each behind the last", l, list, oid(many+1, 1), many-1)
	wantWhere(t, "each behind the last", l, list, root, many)
	wantNoWhere(t, "each behind the last", l, list, oid(many+2, 1), api.ErrNone)
	wantSpan(t, "each behind the last", l, list, oid(many, 1), root, numbers(many, many+1))

	l = full(func(int) api.Id { return root })
	wantCursor(t, "each at the head", l, list, 0, oid(many+1, 1))
	wantCursor(t, "each at the head", l, list, many-1, oid(2, 1))
	wantWhere(t, "each at the head", l, list, oid(2, 1), many-1)
	got, err := Span(l, list, oid(many+1, 1), root)
	must(t, err)
	if len(got) != many || got[0] != number(many+1) || got[many-1] != number(2) {
		t.Errorf("each at the head: %d values, from %v to %v", len(got), got[0], got[len(got)-1])
	}
}
