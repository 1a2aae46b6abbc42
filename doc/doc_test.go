package doc

import (
	"fmt"
	"math"
	"reflect"
	"slices"
	"strings"
	"testing"

	"commonbook/api"
	"commonbook/plain"
)

var root api.Id

func num(n int) api.Value { return api.Value{Kind: api.Number, Num: n} }

func count(n int) api.Value { return api.Value{Kind: api.Count, Num: n} }

func text(s string) api.Value { return api.Value{Kind: api.Text, Text: s} }

func object(kind int, a api.Id) api.Value { return api.Value{Kind: kind, Obj: a} }

// ids of numbers: a number, an actor, and so on.
func ids(n ...int) (l []api.Id) {
	for i := 0; i < len(n); i += 2 {
		l = append(l, api.Id{Num: n[i], Actor: n[i+1]})
	}
	return l
}

// refs of numbers: an actor, a Seq, and so on.
func refs(n ...int) (l []api.Ref) {
	for i := 0; i < len(n); i += 2 {
		l = append(l, api.Ref{Actor: n[i], Seq: n[i+1]})
	}
	return l
}

func hand(t testing.TB, actor int) *Doc {
	t.Helper()
	d, err := New(actor)
	if err != nil {
		t.Fatalf("New(%d): %v", actor, err)
	}
	return d
}

// must ends a test at an error that should not be.
func must(t testing.TB, errs ...error) {
	t.Helper()
	for i, err := range errs {
		if err != nil {
			t.Fatalf("call %d: %v", i, err)
		}
	}
}

// made gives an object that was made, and ends the test if none was.
func made(t testing.TB) func(api.Id, error) api.Id {
	return func(a api.Id, err error) api.Id {
		t.Helper()
		must(t, err)
		return a
	}
}

func commit(t testing.TB, d *Doc) api.Ref {
	t.Helper()
	r, err := d.Commit()
	must(t, err)
	return r
}

func take(t testing.TB, d *Doc, l ...api.Change) {
	t.Helper()
	for _, c := range l {
		must(t, d.Take(c))
	}
}

func wantTold(t testing.TB, what string, err error, want api.Errno) {
	t.Helper()
	if got := plain.Told(err); got != want {
		t.Errorf("%s: got %v, want %v", what, got, want)
	}
}

func wantText(t testing.TB, what string, d *Doc, want string) {
	t.Helper()
	if got := d.Text(); got != want {
		t.Errorf("%s: Text: got %s, want %s", what, got, want)
	}
}

func wantOps(t testing.TB, what string, got []api.Op, want ...api.Op) {
	t.Helper()
	if len(got)+len(want) > 0 && !reflect.DeepEqual(got, want) {
		t.Errorf("%s: got ops %+v, want %+v", what, got, want)
	}
}

// snapshot is all that a later call could tell.
func snapshot(d *Doc) string {
	missing, _ := d.book.Missing(nil)
	return fmt.Sprintf("%d %+v %v %v %+v", d.actor, d.book.All(), d.book.Waiting(), missing, d.pending)
}

// things is a hand with an object of each sort.
type things struct {
	*Doc
	aMap, list    api.Id // with something
	lost, losing  api.Id // a map, and a list, that no place has any more
	newer, newest api.Id // a map, and a list, that are pending
}

// thingsOf has pending: two Makes, an Insert, a Put.
func thingsOf(t testing.TB) things {
	d := hand(t, 1)
	a := things{Doc: d}
	a.aMap = made(t)(d.Make(root, "m", api.Map))    // 1
	a.list = made(t)(d.Make(root, "l", api.List))   // 2
	must(t, d.Insert(a.list, 0, num(10)))           // 3
	must(t, d.Insert(a.list, 1, count(11)))         // 4
	a.lost = made(t)(d.Make(root, "x", api.Map))    // 5
	a.losing = made(t)(d.Make(root, "y", api.List)) // 6
	must(t, d.Insert(a.losing, 0, count(7)))        // 7
	must(t, d.Put(a.lost, "k", count(5)))           // 8
	must(t, d.Del(root, "x"), d.Del(root, "y"))     // 9, 10
	must(t, d.Put(a.aMap, "k", count(1)))           // 11
	must(t, d.Put(root, "k", count(3)))             // 12
	commit(t, d)
	a.newer = made(t)(d.Make(root, "p", api.Map))   // 13
	a.newest = made(t)(d.Make(root, "q", api.List)) // 14
	must(t, d.Insert(a.newest, 0, count(1)))        // 15
	must(t, d.Put(a.newer, "k", count(2)))          // 16
	return a
}

// concurrent are changes of actors from 2 on, none of which knows of another: each puts a value at a key of the root.
func concurrent(key string, l ...api.Value) (out []api.Change) {
	for i, v := range l {
		out = append(out, api.Change{Actor: i + 2, Seq: 1, Start: 1, Ops: []api.Op{{Kind: api.Put, Key: key, Value: v}}})
	}
	return out
}

// knitted are changes of actor 90 without ops, the last of which knows of all of some changes, so that there is one head.
func knitted(l []api.Change) (out []api.Change) {
	for part := range slices.Chunk(l, api.MaxDeps-1) {
		c := api.Change{Actor: 90, Seq: len(out) + 1, Start: 50}
		for _, p := range part {
			c.Deps = append(c.Deps, api.Ref{Actor: p.Actor, Seq: p.Seq})
		}
		if len(out) > 0 {
			c.Deps = append(c.Deps, api.Ref{Actor: 90, Seq: len(out)})
		}
		out = append(out, c)
	}
	return out
}

func numbers(many int) (l []api.Value) {
	for i := range many {
		l = append(l, num(i))
	}
	return l
}

// H1: a new hand is empty, of each actor that may be.
func TestNew(t *testing.T) {
	for _, actor := range []int{1, 2, api.MaxActor} {
		d := hand(t, actor)
		if len(d.All())+len(d.Heads())+d.Pending() != 0 {
			t.Errorf("New(%d) has something: %s", actor, snapshot(d))
		}
		wantText(t, "new", d, "{}")
		must(t, d.Put(root, "a", num(1)))
		if r := commit(t, d); r != (api.Ref{Actor: actor, Seq: 1}) {
			t.Errorf("New(%d): its first change is %v", actor, r)
		}
	}
	for _, actor := range []int{0, -1, api.MaxActor + 1, math.MinInt, math.MaxInt} {
		d, err := New(actor)
		wantTold(t, fmt.Sprint("New of ", actor), err, api.ErrRange)
		if d != nil {
			t.Errorf("New(%d) with an error gives a hand", actor)
		}
	}
	if hand(t, 1) == hand(t, 1) {
		t.Error("two hands are one")
	}
}

// step is a call that adds an op, and what op.
type step struct {
	call func() (api.Id, error)
	op   api.Op
}

func noId(err error) (api.Id, error) { return api.Id{}, err }

// keySteps are the calls with a key k that has one Count, at.
func keySteps(d *Doc, obj, at api.Id) []step {
	behind := []api.Id{at}
	return []step{
		{func() (api.Id, error) { return noId(d.Put(obj, "k", text("t"))) }, api.Op{Kind: api.Put, Obj: obj, Key: "k", Value: text("t"), Preds: behind}},
		{func() (api.Id, error) { return noId(d.Put(obj, "new", num(1))) }, api.Op{Kind: api.Put, Obj: obj, Key: "new", Value: num(1)}},
		{func() (api.Id, error) { return d.Make(obj, "k", api.Map) }, api.Op{Kind: api.Make, Obj: obj, Key: "k", Value: object(api.Map, root), Preds: behind}},
		{func() (api.Id, error) { return d.Make(obj, "new", api.List) }, api.Op{Kind: api.Make, Obj: obj, Key: "new", Value: object(api.List, root)}},
		{func() (api.Id, error) { return noId(d.Del(obj, "k")) }, api.Op{Kind: api.Del, Obj: obj, Key: "k", Preds: behind}},
		{func() (api.Id, error) { return noId(d.Add(obj, "k", -3)) }, api.Op{Kind: api.Inc, Obj: obj, Key: "k", Value: num(-3), Preds: behind}},
	}
}

// indexSteps are the calls with an index of the last of many elements, a Count, at.
func indexSteps(d *Doc, obj api.Id, many int, at api.Id) []step {
	behind := []api.Id{at}
	return []step{
		{func() (api.Id, error) { return noId(d.Insert(obj, many, text("t"))) }, api.Op{Kind: api.Put, Obj: obj, Elem: at, Insert: true, Value: text("t")}},
		{func() (api.Id, error) { return noId(d.Insert(obj, 0, num(1))) }, api.Op{Kind: api.Put, Obj: obj, Insert: true, Value: num(1)}},
		{func() (api.Id, error) { return d.InsertNew(obj, many, api.Map) }, api.Op{Kind: api.Make, Obj: obj, Elem: at, Insert: true, Value: object(api.Map, root)}},
		{func() (api.Id, error) { return d.InsertNew(obj, 0, api.List) }, api.Op{Kind: api.Make, Obj: obj, Insert: true, Value: object(api.List, root)}},
		{func() (api.Id, error) { return noId(d.Set(obj, many-1, num(9))) }, api.Op{Kind: api.Put, Obj: obj, Elem: at, Value: num(9), Preds: behind}},
		{func() (api.Id, error) { return noId(d.Remove(obj, many-1)) }, api.Op{Kind: api.Del, Obj: obj, Elem: at, Preds: behind}},
		{func() (api.Id, error) { return noId(d.AddAt(obj, many-1, 4)) }, api.Op{Kind: api.Inc, Obj: obj, Elem: at, Value: num(4), Preds: behind}},
	}
}

// H1: each call adds just one op, to whatever object there is, with all values of its place as Preds.
func TestEachCall(t *testing.T) {
	a := thingsOf(t)
	d := a.Doc
	id := func(n int) api.Id { return api.Id{Num: n, Actor: 1} }
	steps := map[string][]step{
		"the root":       keySteps(d, root, id(12)),
		"a map":          keySteps(d, a.aMap, id(11)),
		"a lost map":     keySteps(d, a.lost, id(8)),
		"a pending map":  keySteps(d, a.newer, id(16)),
		"a list":         indexSteps(d, a.list, 2, id(4)),
		"a lost list":    indexSteps(d, a.losing, 1, id(7)),
		"a pending list": indexSteps(d, a.newest, 1, id(15)),
	}
	ahead := slices.Clone(d.pending)
	for what, l := range steps {
		for i, s := range l {
			what := fmt.Sprintf("%s, call %d", what, i)
			got, err := s.call()
			wantTold(t, what, err, api.OK)
			wantOps(t, what, d.pending, append(slices.Clone(ahead), s.op)...)
			if s.op.Kind == api.Make && got != id(17) {
				t.Errorf("%s: its id: got %v, want 17@1", what, got)
			}
			d.pending = slices.Clone(ahead)
		}
	}
}

// H1: what is added is seen by the calls behind it, and its number is one more than that of the one ahead.
func TestNumbersRise(t *testing.T) {
	d := hand(t, 7)
	m := made(t)(d.Make(root, "m", api.Map))
	l := made(t)(d.Make(m, "l", api.List))
	n := made(t)(d.InsertNew(l, 0, api.Map))
	k := made(t)(d.InsertNew(l, 0, api.List))
	if got, want := []api.Id{m, l, n, k}, ids(1, 7, 2, 7, 3, 7, 4, 7); !slices.Equal(got, want) {
		t.Errorf("ids: got %v, want %v", got, want)
	}
	commit(t, d)
	if got := made(t)(d.Make(n, "z", api.Map)); got != (api.Id{Num: 5, Actor: 7}) {
		t.Errorf("an id behind Commit: got %v", got)
	}
	wantText(t, "objects in objects", d, `{"m":{"l":[[],{"z":{}}]}}`)
}

// fault is what may be wrong with a call, in the order in which it is told.
type fault struct {
	is   bool
	told api.Errno
}

func first(l ...fault) api.Errno {
	for _, f := range l {
		if f.is {
			return f.told
		}
	}
	return api.OK
}

// wantAnswer: a call answers as it should, and if with an error, has changed nothing. What it did is taken back.
func wantAnswer(t *testing.T, what string, d *Doc, want api.Errno, call func() (api.Id, error)) {
	t.Helper()
	before, ahead := d.All(), slices.Clone(d.pending)
	got, err := call()
	wantTold(t, what, err, want)
	switch {
	case want == api.OK && len(d.pending) != len(ahead)+1:
		t.Errorf("%s: added %d ops", what, len(d.pending)-len(ahead))
	case want != api.OK && !(reflect.DeepEqual(d.pending, ahead) && reflect.DeepEqual(d.All(), before)):
		t.Errorf("%s: with an error: got %v, %v, want %v, %v", what, d.pending, d.All(), ahead, before)
	case want != api.OK && got != root:
		t.Errorf("%s: with an error: got id %v", what, got)
	}
	d.pending = ahead
}

// badValues are none, or objects; just one, where it is enough.
func badValues(isOneEnough bool) []api.Value {
	if isOneEnough {
		return []api.Value{object(api.Map, root)}
	}
	return []api.Value{
		{Kind: -1}, {Kind: 7}, {Kind: math.MaxInt}, {Kind: api.Nil, Num: 1}, {Kind: api.Truth, Num: 2}, {Kind: api.Truth, Num: -1},
		{Kind: api.Number, Text: "a"}, {Kind: api.Count, Obj: api.Id{Num: 1, Actor: 1}}, text(strings.Repeat("a", api.MaxText+1)),
		{Kind: api.Text, Num: 1}, object(api.Map, root), object(api.List, root), object(api.Map, api.Id{Num: 1, Actor: 1}), object(api.List, api.Id{Num: 2, Actor: 1}),
	}
}

// kinds of objects, and some that are none.
func kinds(areFewEnough bool) []int {
	if areFewEnough {
		return []int{4, 6}
	}
	return []int{4, 6, 5, 7, -1, 0, 1, 2, 3, math.MaxInt, math.MinInt}
}

// fullThings are hands that can add nothing more: MaxOps are pending, all numbers are gone, or the book has MaxChanges.
func fullThings(t *testing.T) map[string]things {
	many := thingsOf(t)
	for many.Pending() < api.MaxOps {
		must(t, many.Put(root, "z", num(many.Pending())))
	}
	high := thingsOf(t)
	commit(t, high.Doc)
	take(t, high.Doc, api.Change{Actor: 9, Seq: 1, Start: api.MaxNum, Ops: []api.Op{{Kind: api.Put, Key: "z"}}})
	long := thingsOf(t)
	commit(t, long.Doc)
	for i := len(long.All()); i < api.MaxChanges; i++ {
		must(t, long.Put(root, "z", num(i)))
		commit(t, long.Doc)
	}
	return map[string]things{"MaxOps are pending": many, "MaxNum": high, "MaxChanges": long}
}

// H1: the errors of calls with a key, all together, and of several the one that is named first.
func TestKeyErrors(t *testing.T) {
	all := fullThings(t)
	all["room"] = thingsOf(t)
	for name, a := range all {
		isFull := name != "room"
		none := []api.Id{{Num: 3, Actor: 1}, {Num: 999, Actor: 1}, {Num: 1, Actor: 2}, {Num: -1, Actor: 5}, {Num: 0, Actor: 1}, {Num: math.MaxInt, Actor: math.MinInt}}
		for _, obj := range append(none, root, a.aMap, a.lost, a.newer, a.list, a.losing, a.newest) {
			for _, key := range []string{"", "k", "other", strings.Repeat("k", api.MaxKey), strings.Repeat("k", api.MaxKey+1), "\xff\x00"} {
				what := fmt.Sprintf("%s: at %v, key %q: ", name, obj, key)
				place := []fault{
					{slices.Contains(none, obj), api.ErrNone},
					{slices.Contains([]api.Id{a.list, a.losing, a.newest}, obj), api.ErrKind},
					{key == "", api.ErrRange},
					{len(key) > api.MaxKey, api.ErrFull},
				}
				told := func(l ...fault) api.Errno {
					return first(append(append(slices.Clone(place), l...), fault{isFull, api.ErrFull})...)
				}
				for _, v := range badValues(isFull) {
					wantAnswer(t, what+fmt.Sprint("Put ", v), a.Doc, told(fault{true, api.ErrRange}), func() (api.Id, error) { return noId(a.Put(obj, key, v)) })
				}
				for _, v := range []api.Value{{}, {Kind: api.Truth, Num: 1}, num(math.MinInt), count(math.MaxInt), text(strings.Repeat("\xff", api.MaxText))} {
					wantAnswer(t, what+fmt.Sprint("Put ", v), a.Doc, told(), func() (api.Id, error) { return noId(a.Put(obj, key, v)) })
				}
				for _, kind := range kinds(isFull) {
					wantAnswer(t, what+fmt.Sprint("Make ", kind), a.Doc, told(fault{kind != 5 && kind != 6, api.ErrRange}), func() (api.Id, error) { return a.Make(obj, key, kind) })
				}
				wantAnswer(t, what+"Del", a.Doc, told(fault{key != "k", api.ErrNone}), func() (api.Id, error) { return noId(a.Del(obj, key)) })
				wantAnswer(t, what+"Add", a.Doc, told(fault{key != "k", api.ErrKind}), func() (api.Id, error) { return noId(a.Add(obj, key, math.MinInt)) })
			}
		}
	}
}

// H1: the errors of calls with an index, all together, and of several the one that is named first.
func TestIndexErrors(t *testing.T) {
	all := fullThings(t)
	all["room"] = thingsOf(t)
	for name, a := range all {
		isFull := name != "room"
		many := map[api.Id]int{a.list: 2, a.losing: 1, a.newest: 1}
		none := []api.Id{{Num: 3, Actor: 1}, {Num: 999, Actor: 1}, {Num: 2, Actor: 2}, {Num: -1, Actor: 5}, {Num: 0, Actor: 1}, {Num: math.MinInt, Actor: math.MaxInt}}
		for _, obj := range append(none, root, a.aMap, a.lost, a.newer, a.list, a.losing, a.newest) {
			for _, at := range []int{math.MinInt, -1, 0, 1, 2, 3, math.MaxInt} {
				what := fmt.Sprintf("%s: at %v, index %d: ", name, obj, at)
				told := func(most int, l ...fault) api.Errno {
					place := []fault{
						{slices.Contains(none, obj), api.ErrNone},
						{slices.Contains([]api.Id{root, a.aMap, a.lost, a.newer}, obj), api.ErrKind},
						{at < 0 || at > most, api.ErrRange},
					}
					return first(append(append(place, l...), fault{isFull, api.ErrFull})...)
				}
				last := many[obj] - 1
				for i, v := range append(badValues(isFull), num(1), api.Value{}, count(2)) {
					isBad := fault{i < len(badValues(isFull)), api.ErrRange}
					wantAnswer(t, what+fmt.Sprint("Insert ", v), a.Doc, told(last+1, isBad), func() (api.Id, error) { return noId(a.Insert(obj, at, v)) })
					wantAnswer(t, what+fmt.Sprint("Set ", v), a.Doc, told(last, isBad), func() (api.Id, error) { return noId(a.Set(obj, at, v)) })
				}
				for _, kind := range kinds(isFull) {
					wantAnswer(t, what+fmt.Sprint("InsertNew ", kind), a.Doc, told(last+1, fault{kind != 5 && kind != 6, api.ErrRange}), func() (api.Id, error) { return a.InsertNew(obj, at, kind) })
				}
				wantAnswer(t, what+"Remove", a.Doc, told(last), func() (api.Id, error) { return noId(a.Remove(obj, at)) })
				wantAnswer(t, what+"AddAt", a.Doc, told(last, fault{obj == a.list && at == 0, api.ErrKind}), func() (api.Id, error) { return noId(a.AddAt(obj, at, 1)) })
			}
		}
	}
}

// row is a list with many numbers from 0 on, each said by an op with a number three above it.
func row(t testing.TB, many int) (*Doc, api.Id) {
	d := hand(t, 1)
	l := made(t)(d.Make(root, "l", api.List))
	for i := range many {
		must(t, d.Insert(l, i, num(i)))
	}
	return d, l
}

// H1, H2: an index counts elements with values alone, and an Insert stands behind the one that it counts last.
func TestIndexes(t *testing.T) {
	for _, isIn := range []bool{false, true} {
		d, l := row(t, 6)                                       // elements 2 to 7
		must(t, d.Remove(l, 3), d.Remove(l, 0), d.Remove(l, 3)) // 0, 3 and 5 are gone
		if isIn {
			commit(t, d)
		}
		wantText(t, "with elements that are gone", d, `{"l":[1,2,4]}`)
		ahead := slices.Clone(d.pending)
		for at, elem := range []int{0, 3, 4, 6} {
			must(t, d.Insert(l, at, num(9)))
			want := api.Op{Kind: api.Put, Obj: l, Insert: true, Value: num(9)}
			if at > 0 {
				want.Elem = api.Id{Num: elem, Actor: 1}
			}
			wantOps(t, fmt.Sprint("Insert at ", at), d.pending[len(ahead):], want)
			got, err := d.At(l, at)
			wantTold(t, "At", err, api.OK)
			if !slices.Equal(got, []api.Value{num(9)}) {
				t.Errorf("At of what was inserted at %d: got %v", at, got)
			}
			d.pending = slices.Clone(ahead)
		}
		for at, elem := range []int{3, 4, 6} {
			must(t, d.Set(l, at, num(8)))
			must(t, d.Remove(l, at))
			a := api.Id{Num: elem, Actor: 1}
			wantOps(t, fmt.Sprint("Set and Remove at ", at), d.pending[len(ahead):],
				api.Op{Kind: api.Put, Obj: l, Elem: a, Value: num(8), Preds: []api.Id{a}},
				api.Op{Kind: api.Del, Obj: l, Elem: a, Preds: ids(11, 1)})
			d.pending = slices.Clone(ahead)
		}
	}
}

// H1: an element that is gone is none even if all are.
func TestAllGone(t *testing.T) {
	d, l := row(t, 2)
	must(t, d.Remove(l, 1), d.Remove(l, 0))
	wantTold(t, "Set", d.Set(l, 0, num(1)), api.ErrRange)
	wantTold(t, "Remove", d.Remove(l, 0), api.ErrRange)
	wantTold(t, "AddAt", d.AddAt(l, 0, 1), api.ErrRange)
	wantTold(t, "Insert at 1", d.Insert(l, 1, num(1)), api.ErrRange)
	must(t, d.Insert(l, 0, num(1)))
	wantText(t, "one more", d, `{"l":[1]}`)
}

// H1: Preds are the ids of all values of a place, rising, whoever said them.
func TestPreds(t *testing.T) {
	for many := range api.MaxDeps + 3 {
		d := hand(t, 50)
		take(t, d, concurrent("a", numbers(many)...)...)
		var want []api.Id
		for i := range many {
			want = append(want, api.Id{Num: 1, Actor: i + 2})
		}
		isFull := fault{many > api.MaxDeps, api.ErrFull}
		what := fmt.Sprint(many, " values: ")
		wantAnswer(t, what+"Del", d, first(fault{many == 0, api.ErrNone}, isFull), func() (api.Id, error) { return noId(d.Del(root, "a")) })
		wantAnswer(t, what+"Make", d, first(isFull), func() (api.Id, error) { return d.Make(root, "a", api.Map) })
		wantAnswer(t, what+"Add", d, api.ErrKind, func() (api.Id, error) { return noId(d.Add(root, "a", 1)) })
		err := d.Put(root, "a", num(100))
		wantTold(t, what+"Put", err, first(isFull))
		if err == nil {
			wantOps(t, what+"Put", d.pending, api.Op{Kind: api.Put, Key: "a", Value: num(100), Preds: want})
			wantText(t, what, d, `{"a":100}`)
		}
	}
}

// H1: Preds rise by their numbers first, and the values of other places are none of them.
func TestPredsOrder(t *testing.T) {
	d := hand(t, 1)
	take(t, d,
		api.Change{Actor: 2, Seq: 1, Start: 9, Ops: []api.Op{{Kind: api.Put, Key: "a"}, {Kind: api.Put, Key: "b"}}},
		api.Change{Actor: 3, Seq: 1, Start: 8, Ops: []api.Op{{Kind: api.Put, Key: "a"}, {Kind: api.Put, Key: "a"}}},
		api.Change{Actor: 4, Seq: 1, Start: 3, Ops: []api.Op{{Kind: api.Put, Key: "a"}, {Kind: api.Put, Key: "a", Preds: ids(3, 4)}}})
	must(t, d.Put(root, "a", num(1)))
	wantOps(t, "Put", d.pending, api.Op{Kind: api.Put, Key: "a", Value: num(1), Preds: ids(4, 4, 8, 3, 9, 2, 9, 3)})
	if got := d.look().next.Start; got != 11 {
		t.Errorf("Start: got %d, want 11", got)
	}
}

// H1: on an element, too, Preds are all values that were said at the same time.
func TestPredsOfElement(t *testing.T) {
	a, l := row(t, 1)
	commit(t, a)
	b, c := fork(t, a, 2), fork(t, a, 3)
	must(t, a.Set(l, 0, count(1)), b.Set(l, 0, num(2)), c.Set(l, 0, count(3)))
	commit(t, a)
	commit(t, b)
	commit(t, c)
	merge(t, a, b, 1)
	merge(t, a, c, 1)
	must(t, a.AddAt(l, 0, 7), a.Set(l, 0, num(4)))
	elem := api.Id{Num: 2, Actor: 1}
	wantOps(t, "AddAt, Set", a.pending,
		api.Op{Kind: api.Inc, Obj: l, Elem: elem, Value: num(7), Preds: ids(3, 1, 3, 3)},
		api.Op{Kind: api.Put, Obj: l, Elem: elem, Value: num(4), Preds: ids(3, 1, 3, 2, 3, 3)})
}

// H1: Add is to all Counts of a place and to nothing else there; a Put of a Count makes a new one.
func TestAdd(t *testing.T) {
	d := hand(t, 1)
	take(t, d, concurrent("a", count(10), num(5), count(-1), text("t"), count(math.MaxInt))...)
	must(t, d.Add(root, "a", 2))
	wantOps(t, "Add", d.pending, api.Op{Kind: api.Inc, Key: "a", Value: num(2), Preds: ids(1, 2, 1, 4, 1, 6)})
	wantValues(t, "Counts among others", d, root, "a", count(math.MinInt+1), text("t"), count(1), num(5), count(12))
	must(t, d.Add(root, "a", math.MinInt))
	wantValues(t, "over 2^63", d, root, "a", count(1), text("t"), count(math.MinInt+1), num(5), count(math.MinInt+12))
	must(t, d.Put(root, "a", count(4)))
	wantValues(t, "a new Count", d, root, "a", count(4))
	must(t, d.Add(root, "a", 0), d.Add(root, "a", -9))
	wantValues(t, "added to the new one", d, root, "a", count(-5))
	must(t, d.Put(root, "a", num(4)))
	wantTold(t, "Add to a Number", d.Add(root, "a", 1), api.ErrKind)
	must(t, d.Del(root, "a"))
	wantTold(t, "Add to nothing", d.Add(root, "a", 1), api.ErrKind)
}

// H1: AddAt, likewise.
func TestAddAt(t *testing.T) {
	d, l := row(t, 1)
	wantTold(t, "AddAt of a Number", d.AddAt(l, 0, 1), api.ErrKind)
	must(t, d.Insert(l, 1, count(math.MaxInt)), d.AddAt(l, 1, 1), d.AddAt(l, 1, math.MaxInt))
	got, err := d.At(l, 1)
	if must(t, err); !slices.Equal(got, []api.Value{count(-1)}) {
		t.Errorf("At: got %v", got)
	}
	must(t, d.Set(l, 1, count(3)), d.AddAt(l, 1, 4))
	wantText(t, "a new Count", d, `{"l":[0,7]}`)
}

// H1: with more than MaxDeps values nothing is added, though but one of them may be a Count; other places do not mind.
func TestTooManyValues(t *testing.T) {
	for _, many := range []int{api.MaxDeps, api.MaxDeps + 1} {
		d := hand(t, 1)
		l := concurrent("a", append([]api.Value{count(1)}, numbers(many-1)...)...)
		take(t, d, l...)
		take(t, d, knitted(l)...)
		want := first(fault{many > api.MaxDeps, api.ErrFull})
		what := fmt.Sprint(many, " values: ")
		wantAnswer(t, what+"Put", d, want, func() (api.Id, error) { return noId(d.Put(root, "a", num(1))) })
		wantAnswer(t, what+"Put of none", d, api.ErrRange, func() (api.Id, error) { return noId(d.Put(root, "a", object(api.Map, root))) })
		wantAnswer(t, what+"Make", d, want, func() (api.Id, error) { return d.Make(root, "a", api.List) })
		wantAnswer(t, what+"Make of none", d, api.ErrRange, func() (api.Id, error) { return d.Make(root, "a", api.Count) })
		wantAnswer(t, what+"Del", d, want, func() (api.Id, error) { return noId(d.Del(root, "a")) })
		wantAnswer(t, what+"Add", d, want, func() (api.Id, error) { return noId(d.Add(root, "a", 1)) })
		must(t, d.Put(root, "b", num(1)))
		commit(t, d)
		if got, err := d.Get(root, "a"); err != nil || len(got) != many {
			t.Errorf("%sGet: got %v, %v", what, got, err)
		}
	}
}

// H1: on an element with more than MaxDeps values nothing is added but behind it.
func TestTooManyValuesOfElement(t *testing.T) {
	a, l := row(t, 1)
	must(t, a.Set(l, 0, count(0)))
	commit(t, a)
	for i := range api.MaxDeps + 1 {
		b := hand(t, i+2)
		take(t, b, a.All()[0])
		must(t, b.Set(l, 0, count(i)))
		commit(t, b)
		merge(t, a, b, 1)
	}
	wantAnswer(t, "Set", a, api.ErrFull, func() (api.Id, error) { return noId(a.Set(l, 0, num(1))) })
	wantAnswer(t, "Set of none", a, api.ErrRange, func() (api.Id, error) { return noId(a.Set(l, 0, object(api.Map, root))) })
	wantAnswer(t, "Remove", a, api.ErrFull, func() (api.Id, error) { return noId(a.Remove(l, 0)) })
	wantAnswer(t, "AddAt", a, api.ErrFull, func() (api.Id, error) { return noId(a.AddAt(l, 0, 1)) })
	wantAnswer(t, "Insert", a, api.OK, func() (api.Id, error) { return noId(a.Insert(l, 1, num(1))) })
	wantAnswer(t, "InsertNew", a, api.OK, func() (api.Id, error) { return a.InsertNew(l, 1, api.Map) })
}

// H1: MaxOps may be pending, and behind Commit or Rollback again so many.
func TestMaxOps(t *testing.T) {
	d := hand(t, 1)
	for range 3 {
		for i := range api.MaxOps {
			must(t, d.Put(root, "a", num(i)))
		}
		wantTold(t, "one more", d.Put(root, "a", num(99)), api.ErrFull)
		if d.Pending() != api.MaxOps {
			t.Errorf("Pending: got %d", d.Pending())
		}
		wantText(t, "MaxOps", d, `{"a":39}`)
		if len(d.All()) == 0 {
			commit(t, d)
		} else {
			d.Rollback()
		}
	}
}

// H1: numbers of ops go up to MaxNum.
func TestMaxNum(t *testing.T) {
	d := hand(t, 1)
	take(t, d, api.Change{Actor: 2, Seq: 1, Start: api.MaxNum - 2, Ops: []api.Op{{Kind: api.Put, Key: "a"}}})
	must(t, d.Put(root, "b", num(1)))
	if a := made(t)(d.Make(root, "c", api.Map)); a != (api.Id{Num: api.MaxNum, Actor: 1}) {
		t.Errorf("the last id: got %v", a)
	}
	wantAnswer(t, "Put above MaxNum", d, api.ErrFull, func() (api.Id, error) { return noId(d.Put(root, "d", num(1))) })
	wantAnswer(t, "Put of none above MaxNum", d, api.ErrRange, func() (api.Id, error) { return noId(d.Put(root, "d", api.Value{Kind: 9})) })
	commit(t, d)
	wantAnswer(t, "Put above MaxNum", d, api.ErrFull, func() (api.Id, error) { return noId(d.Put(root, "d", num(1))) })
	_, err := d.Commit()
	wantTold(t, "Commit of nothing", err, api.ErrNone)
	wantText(t, "at the end of numbers", d, `{"a":null,"b":1,"c":{}}`)
}

// H1: Start is one more than the greatest number of an op; a change without ops has none, wherever it starts.
func TestStart(t *testing.T) {
	empty := api.Change{Actor: 2, Seq: 1, Start: api.MaxNum}
	d := hand(t, 1)
	take(t, d, empty)
	if a := made(t)(d.Make(root, "a", api.Map)); a != (api.Id{Num: 1, Actor: 1}) {
		t.Errorf("behind a change without ops: got %v, want 1@1", a)
	}
	commit(t, d)
	take(t, d, api.Change{Actor: 3, Seq: 1, Start: 70},
		api.Change{Actor: 4, Seq: 1, Start: 30, Ops: []api.Op{{Kind: api.Put, Key: "a"}, {Kind: api.Put, Key: "a"}}},
		api.Change{Actor: 5, Seq: 1, Start: 20, Ops: []api.Op{{Kind: api.Put, Key: "a"}}})
	if a := made(t)(d.Make(root, "b", api.Map)); a != (api.Id{Num: 32, Actor: 1}) {
		t.Errorf("behind others' ops: got %v, want 32@1", a)
	}
	commit(t, d)
	c := d.All()[len(d.All())-1]
	if want := refs(1, 1, 3, 1, 4, 1, 5, 1); c.Seq != 2 || c.Start != 32 || !slices.Equal(c.Deps, want) {
		t.Errorf("the change: got %+v, want Deps %v", c, want)
	}
}

// H1: reads see what is pending as if it were in, and behind Commit the same.
func TestPendingIsRead(t *testing.T) {
	a := thingsOf(t)
	before := readable(a)
	if want := `{"k":3,"l":[10,11],"m":{"k":1},"p":{"k":2},"q":[1]}`; a.Text() != want {
		t.Errorf("Text: got %s, want %s", a.Text(), want)
	}
	commit(t, a.Doc)
	if got := readable(a); got != before {
		t.Errorf("behind Commit: got %s, want %s", got, before)
	}
}

// readable is all that reads tell of a hand's things.
func readable(a things) string {
	out := a.Text()
	for _, obj := range []api.Id{root, a.aMap, a.list, a.lost, a.losing, a.newer, a.newest} {
		keys, bad := a.Keys(obj)
		many, ill := a.Len(obj)
		out += fmt.Sprintln(obj, keys, bad, many, ill)
		for i := range many {
			v, err := a.At(obj, i)
			out += fmt.Sprintln(v, err)
		}
		for _, k := range keys {
			v, err := a.Get(obj, k)
			out += fmt.Sprintln(v, err)
		}
	}
	return out
}
