package state

import (
	"fmt"
	"math"
	"reflect"
	"slices"
	"strings"
	"testing"

	"commonbook/api"
	"commonbook/change"
	"commonbook/plain"
)

var root = api.Id{}

// ids of numbers: a number, an actor, and so on.
func ids(n ...int) (l []api.Id) {
	for i := 0; i < len(n); i += 2 {
		l = append(l, api.Id{Num: n[i], Actor: n[i+1]})
	}
	return l
}

func oid(num, actor int) api.Id { return api.Id{Num: num, Actor: actor} }

// refs of numbers: an actor, a Seq, and so on.
func refs(n ...int) (l []api.Ref) {
	for i := 0; i < len(n); i += 2 {
		l = append(l, api.Ref{Actor: n[i], Seq: n[i+1]})
	}
	return l
}

func null() api.Value { return api.Value{} }

func truth(n int) api.Value { return api.Value{Kind: api.Truth, Num: n} }

func number(n int) api.Value { return api.Value{Kind: api.Number, Num: n} }

func count(n int) api.Value { return api.Value{Kind: api.Count, Num: n} }

func text(s string) api.Value { return api.Value{Kind: api.Text, Text: s} }

func object(kind int, a api.Id) api.Value { return api.Value{Kind: kind, Obj: a} }

func put(obj api.Id, key string, v api.Value, preds ...api.Id) api.Op {
	return api.Op{Kind: api.Put, Obj: obj, Key: key, Value: v, Preds: preds}
}

func mk(obj api.Id, key string, kind int, preds ...api.Id) api.Op {
	return api.Op{Kind: api.Make, Obj: obj, Key: key, Value: api.Value{Kind: kind}, Preds: preds}
}

func del(obj api.Id, key string, preds ...api.Id) api.Op {
	return api.Op{Kind: api.Del, Obj: obj, Key: key, Preds: preds}
}

func inc(obj api.Id, key string, n int, preds ...api.Id) api.Op {
	return api.Op{Kind: api.Inc, Obj: obj, Key: key, Value: number(n), Preds: preds}
}

func insert(list, elem api.Id, v api.Value) api.Op {
	return api.Op{Kind: api.Put, Obj: list, Elem: elem, Insert: true, Value: v}
}

func insertNew(list, elem api.Id, kind int) api.Op {
	return api.Op{Kind: api.Make, Obj: list, Elem: elem, Insert: true, Value: api.Value{Kind: kind}}
}

// on lays an op of a key on an element.
func on(elem api.Id, op api.Op) api.Op {
	op.Key, op.Elem = "", elem
	return op
}

// with is a change that hangs on deps.
func with(actor, seq, start int, deps []api.Ref, ops ...api.Op) api.Change {
	return api.Change{Actor: actor, Seq: seq, Start: start, Deps: deps, Ops: ops}
}

// one is the one change of actor 1, with ops from 1@1 on.
func one(ops ...api.Op) []api.Change { return []api.Change{with(1, 1, 1, nil, ops...)} }

func wantText(t *testing.T, what string, l []api.Change, want string) {
	t.Helper()
	if got, err := Text(l); got != want || err != nil {
		t.Errorf("%s: Text: got %q, %v, want %q", what, got, err, want)
	}
}

func wantElements(t *testing.T, what string, l []api.Change, list api.Id, want []api.Id) {
	t.Helper()
	if got, err := Elements(l, list); !slices.Equal(got, want) || err != nil {
		t.Errorf("%s: Elements of %v: got %v, %v, want %v", what, list, got, err, want)
	}
}

// place of a key.
func place(obj api.Id, key string, at []api.Id, all ...api.Value) Place {
	return Place{Obj: obj, Key: key, All: all, Ids: at}
}

// placeOf an element.
func placeOf(obj, elem api.Id, at []api.Id, all ...api.Value) Place {
	return Place{Obj: obj, Elem: elem, All: all, Ids: at}
}

func wantPlaces(t *testing.T, what string, l []api.Change, want ...Place) {
	t.Helper()
	v, got, err := Of(l)
	if v != (api.Value{Kind: api.Map}) || err != nil {
		t.Errorf("%s: Of: got %v, %v, want a map, the root", what, v, err)
	}
	if len(got) != len(want) || len(want) > 0 && !reflect.DeepEqual(got, want) {
		t.Errorf("%s: Of: got %v, want %v", what, got, want)
	}
}

// wantTold asks all calls for one error, with which nothing else is told.
func wantTold(t *testing.T, what string, l []api.Change, want api.Errno) {
	t.Helper()
	v, places, err := Of(l)
	if plain.Told(err) != want || v != (api.Value{}) || places != nil {
		t.Errorf("%s: Of: got %v, %v, %v, want %v", what, v, places, err, want)
	}
	if s, err := Text(l); plain.Told(err) != want || s != "" {
		t.Errorf("%s: Text: got %q, %v, want %v", what, s, err, want)
	}
	if b, err := Book(l); plain.Told(err) != want || b != nil {
		t.Errorf("%s: Book: got %v, %v, want %v", what, b, err, want)
	}
	for _, obj := range []api.Id{root, oid(1, 1), oid(9, 9), oid(-1, 100)} {
		if e, err := Elements(l, obj); plain.Told(err) != want || e != nil {
			t.Errorf("%s: Elements of %v: got %v, %v, want %v", what, obj, e, err, want)
		}
	}
}

// S1, S2, S3
func TestNoChanges(t *testing.T) {
	for _, l := range [][]api.Change{nil, {}, one()} {
		wantPlaces(t, "nothing", l)
		wantText(t, "nothing", l, "{}")
		if e, err := Elements(l, root); e != nil || plain.Told(err) != api.ErrNone {
			t.Errorf("Elements of the root: got %v, %v, want ErrNone", e, err)
		}
	}
}

// chain of one actor: each hangs on the one ahead, and the first makes a list, 1@1.
func chain(many int) (l []api.Change) {
	for i := range many {
		c := with(1, i+1, i+1, nil, mk(root, "l", api.List))
		if i > 0 {
			c = with(1, i+1, i+1, refs(1, i), put(root, "k", number(i)))
		}
		l = append(l, c)
	}
	return l
}

// fault is a change that is refused behind chain(3), or behind what it begins with.
type fault struct {
	what string
	c    api.Change
	want api.Errno
}

// faults are wrong wherever they stand.
func faults() []fault {
	a := put(root, "a", null())
	deps := func(many int) (l []api.Ref) {
		for i := range many {
			l = append(l, api.Ref{Actor: i + 1, Seq: 1})
		}
		return l
	}
	return []fault{
		{"nothing but noughts", api.Change{}, api.ErrState},
		{"no actor", with(0, 1, 1, nil, a), api.ErrState},
		{"an actor too high", with(api.MaxActor+1, 1, 1, nil, a), api.ErrState},
		{"no Seq", with(2, 0, 1, nil, a), api.ErrState},
		{"no Start", with(2, 1, 0, nil, a), api.ErrState},
		{"numbers far off", with(math.MinInt, math.MaxInt, math.MinInt, refs(math.MaxInt, math.MinInt), a), api.ErrState},
		{"too many Deps", with(2, 1, 9, deps(13), a), api.ErrState},
		{"Deps that do not rise", with(2, 1, 9, refs(4, 1, 3, 1), a), api.ErrState},
		{"too many ops", with(2, 1, 9, nil, slices.Repeat([]api.Op{a}, 41)...), api.ErrState},
		{"ops above MaxNum", with(2, 1, api.MaxNum, nil, a, a), api.ErrState},
		{"an op of no kind", with(2, 1, 9, nil, api.Op{}), api.ErrState},
		{"a key too long", with(2, 1, 9, nil, put(root, strings.Repeat("k", 21), null())), api.ErrState},
		{"Preds that do not rise", with(2, 1, 9, nil, put(root, "a", null(), ids(2, 1, 1, 1)...)), api.ErrState},
		{"no place", with(2, 1, 9, nil, put(root, "", null())), api.ErrState},
		{"no value", with(2, 1, 9, nil, put(root, "a", api.Value{Kind: 7})), api.ErrState},
		{"a Del of nothing", with(2, 1, 9, nil, del(root, "a")), api.ErrState},
		{"it waits", with(2, 1, 9, refs(3, 1), a), api.ErrState},
		{"it waits for itself", with(2, 1, 9, refs(2, 1), a), api.ErrState},
		{"one of its Deps is there, the other is not", with(2, 1, 9, refs(1, 1, 3, 7), a), api.ErrState},
		{"its actor's first is not there", with(2, 2, 9, nil, a), api.ErrState},
		{"no object", with(2, 1, 9, nil, put(oid(7, 7), "a", null())), api.ErrState},
		{"an element of a map", with(2, 1, 9, nil, insert(root, root, null())), api.ErrState},
		{"Preds that are not there", with(2, 1, 9, nil, put(root, "a", null(), oid(8, 2))), api.ErrState},
		{"Preds of another key", with(2, 1, 9, nil, a, put(root, "b", null(), oid(9, 2))), api.ErrState},
		{"an Inc of a Number", with(2, 1, 9, nil, put(root, "a", number(1)), inc(root, "a", 1, oid(9, 2))), api.ErrState},
	}
}

// S1: a fault in the first, a middle and the last change.
func TestRefused(t *testing.T) {
	for _, f := range faults() {
		for at := range 4 {
			wantTold(t, fmt.Sprint(f.what, " at ", at), slices.Insert(chain(3), at, f.c), f.want)
		}
		wantTold(t, f.what+", alone", []api.Change{f.c}, f.want)
	}
}

// S1: what is there already, whether just it or another one.
func TestClash(t *testing.T) {
	const many = 4
	others := []api.Change{
		with(1, 1, 1, nil), with(1, 1, 2, nil, mk(root, "l", api.List)),
		with(1, 1, 1, refs(9, 9), mk(root, "l", api.List)), with(1, 1, 1, nil, mk(root, "l", api.Map)),
		// It clashes, though it is also one that does not fit.
		with(1, 1, 1, nil, put(oid(5, 5), "l", null())),
	}
	for at := 1; at <= many; at++ {
		for i := range at {
			wantTold(t, fmt.Sprint("change ", i, " again at ", at), slices.Insert(chain(many), at, chain(many)[i]), api.ErrClash)
		}
		for i, c := range others {
			wantTold(t, fmt.Sprint("another one, ", i, ", at ", at), slices.Insert(chain(many), at, c), api.ErrClash)
		}
	}
	// What Check refuses is not held against what is there.
	wantTold(t, "a wrong one with an Actor and Seq that are there", append(chain(2), with(1, 1, 1, refs(1, 0))), api.ErrState)
	wantTold(t, "one that waits, twice", slices.Repeat([]api.Change{with(2, 1, 1, refs(3, 1))}, 2), api.ErrState)
}

// S1: of two faults the first change's is told.
func TestTwoFaults(t *testing.T) {
	wrong, again := with(2, 1, 1, refs(3, 1)), chain(1)[0]
	wantTold(t, "wrong, then again", append(chain(1), wrong, again), api.ErrState)
	wantTold(t, "again, then wrong", append(chain(1), again, wrong), api.ErrClash)
	wantTold(t, "again, then wrong, far off", append([]api.Change{chain(1)[0]}, again, chain(2)[1], api.Change{}), api.ErrClash)
	wantTold(t, "wrong, then again, far off", append([]api.Change{{}}, again, again), api.ErrState)
}

// S1: it is the set that counts, but each change stands behind those it hangs on.
func TestWaits(t *testing.T) {
	l := chain(3)
	wantText(t, "in order", l, `{"k":2,"l":[]}`)
	slices.Reverse(l)
	wantTold(t, "backwards", l, api.ErrState)
	l = chain(3)
	l[1], l[2] = l[2], l[1]
	wantTold(t, "the last ahead of the middle", l, api.ErrState)
}

// S1: the Book has all that was handed in, and nothing waits there.
func TestBook(t *testing.T) {
	for many := range 4 {
		l := append(chain(many), with(2, 1, 9, nil))
		b, err := Book(l)
		if err != nil || !reflect.DeepEqual(b.All(), l) || len(b.Waiting()) > 0 {
			t.Errorf("Book of %v: got %v, %v", l, b, err)
		}
	}
}

// S1: a book is full at MaxChanges.
func TestFull(t *testing.T) {
	l := chain(api.MaxChanges)
	wantText(t, "full", l, fmt.Sprintf(`{"k":%d,"l":[]}`, api.MaxChanges-1))
	wantTold(t, "one too many", append(l, with(2, 1, 1, nil)), api.ErrState)
	wantTold(t, "the first again", append(l, l[0]), api.ErrClash)
	wantTold(t, "another last one", append(l, with(1, api.MaxChanges, 1, nil)), api.ErrClash)
}

// S1: what a place has.
func TestPlaceHas(t *testing.T) {
	a := one(put(root, "k", number(1)))
	wantPlaces(t, "one value", a, place(root, "k", ids(1, 1), number(1)))

	// None knows of another one: the greater number first, then the greater actor.
	same := append(a, with(3, 1, 1, nil, put(root, "k", text("c"))), with(2, 1, 1, nil, mk(root, "k", api.Map), put(root, "k", null())))
	wantPlaces(t, "at the same time", same,
		place(root, "k", ids(2, 2, 1, 3, 1, 2, 1, 1), null(), text("c"), object(api.Map, oid(1, 2)), number(1)))
	wantText(t, "at the same time", same, `{"k":null}`)

	some := append(same, with(4, 1, 7, refs(2, 1, 3, 1), put(root, "k", truth(1), ids(1, 3, 2, 2)...)))
	wantPlaces(t, "some are over", some,
		place(root, "k", ids(7, 4, 1, 2, 1, 1), truth(1), object(api.Map, oid(1, 2)), number(1)))

	gone := append(some, with(1, 2, 8, refs(1, 1, 4, 1), del(root, "k", ids(1, 1, 1, 2, 7, 4)...)))
	wantPlaces(t, "none is left", gone)
	wantText(t, "none is left", gone, "{}")

	back := append(gone, with(5, 1, 2, refs(1, 1), put(root, "k", number(5), oid(1, 1))))
	wantPlaces(t, "said by one that knew little", back, place(root, "k", ids(2, 5), number(5)))
}

// S1: over by a Put, a Make, a Del, and by nothing else.
func TestOver(t *testing.T) {
	first := put(root, "a", count(1))
	for _, c := range []struct {
		what string
		op   api.Op
		want string
	}{
		{"Put", put(root, "a", number(2), oid(1, 1)), `{"a":2}`},
		{"Make", mk(root, "a", api.List, oid(1, 1)), `{"a":[]}`},
		{"Del", del(root, "a", oid(1, 1)), `{}`},
		{"Inc", inc(root, "a", 5, oid(1, 1)), `{"a":6}`},
		{"a Put of another key", put(root, "b", number(2)), `{"a":1,"b":2}`},
	} {
		wantText(t, c.what, one(first, c.op), c.want)
		wantText(t, c.what+" of another change", append(one(first), with(2, 1, 2, refs(1, 1), c.op)), c.want)
	}
	wantPlaces(t, "a Put without Preds", one(first, put(root, "a", number(2))), place(root, "a", ids(2, 1, 1, 1), number(2), count(1)))
	// Over by two that do not know of each other, and by one that is over itself.
	l := append(one(first), with(2, 1, 2, refs(1, 1), put(root, "a", number(2), oid(1, 1))), with(3, 1, 2, refs(1, 1), del(root, "a", oid(1, 1))))
	wantPlaces(t, "over twice", l, place(root, "a", ids(2, 2), number(2)))
	l = append(l, with(4, 1, 3, refs(2, 1), del(root, "a", oid(2, 2))))
	wantPlaces(t, "over by what is over", l)
}

// S1: one key of many objects, and one element of many ops: each place is its own.
func TestPlacesApart(t *testing.T) {
	m, n, l := oid(1, 1), oid(2, 1), oid(3, 1)
	c := one(
		mk(root, "m", api.Map), mk(root, "n", api.Map), mk(root, "l", api.List),
		put(root, "k", number(4)), put(m, "k", number(5)), put(n, "k", number(6)),
		insert(l, root, number(7)), insert(l, oid(7, 1), number(8)),
	)
	wantText(t, "one key", c, `{"k":4,"l":[7,8],"m":{"k":5},"n":{"k":6}}`)
	for _, x := range []struct {
		op   api.Op
		want string
	}{
		{del(root, "k", oid(4, 1)), `{"l":[7,8],"m":{"k":5},"n":{"k":6}}`},
		{del(m, "k", oid(5, 1)), `{"k":4,"l":[7,8],"m":{},"n":{"k":6}}`},
		{put(n, "k", number(0), oid(6, 1)), `{"k":4,"l":[7,8],"m":{"k":5},"n":{"k":0}}`},
		{on(oid(7, 1), del(l, "", oid(7, 1))), `{"k":4,"l":[8],"m":{"k":5},"n":{"k":6}}`},
		{on(oid(8, 1), put(l, "", number(9), oid(8, 1))), `{"k":4,"l":[7,9],"m":{"k":5},"n":{"k":6}}`},
	} {
		wantText(t, "one over", append(c, with(2, 1, 9, refs(1, 1), x.op)), x.want)
	}
	for _, op := range []api.Op{
		del(root, "k", oid(5, 1)), del(m, "k", oid(6, 1)), del(n, "x", oid(6, 1)), del(root, "l", oid(7, 1)),
		on(oid(7, 1), del(l, "", oid(8, 1))), on(oid(7, 1), put(l, "", null(), oid(3, 1))), del(m, "k", oid(1, 1)),
	} {
		wantTold(t, "Preds of another place", append(c, with(2, 1, 9, refs(1, 1), op)), api.ErrState)
	}
}

// S1: Counts.
func TestCount(t *testing.T) {
	for _, c := range []struct {
		what string
		ops  []api.Op
		want []Place
	}{
		{"no Inc", []api.Op{put(root, "n", count(-3))}, []Place{place(root, "n", ids(1, 1), count(-3))}},
		{"several", []api.Op{put(root, "n", count(5)), inc(root, "n", 7, oid(1, 1)), inc(root, "n", -20, oid(1, 1)), inc(root, "n", 0, oid(1, 1))},
			[]Place{place(root, "n", ids(1, 1), count(-8))}},
		{"an Inc of several", []api.Op{put(root, "n", count(5)), put(root, "n", count(50)), put(root, "n", number(1)), inc(root, "n", 2, ids(1, 1, 2, 1)...), inc(root, "n", 1, oid(2, 1))},
			[]Place{place(root, "n", ids(3, 1, 2, 1, 1, 1), number(1), count(53), count(7))}},
		{"of one that is over", []api.Op{put(root, "n", count(5)), put(root, "n", count(6), oid(1, 1)), inc(root, "n", 2, oid(1, 1))},
			[]Place{place(root, "n", ids(2, 1), count(6))}},
		{"of one that is over, and one that is not", []api.Op{put(root, "n", count(5)), put(root, "n", count(6), oid(1, 1)), inc(root, "n", 2, ids(1, 1, 2, 1)...)},
			[]Place{place(root, "n", ids(2, 1), count(8))}},
		{"ahead of its end", []api.Op{put(root, "n", count(5)), inc(root, "n", 2, oid(1, 1)), del(root, "n", oid(1, 1))}, nil},
		{"at an element", []api.Op{mk(root, "l", api.List), insert(oid(1, 1), root, count(5)), on(oid(2, 1), inc(oid(1, 1), "", 4, oid(2, 1))), on(oid(2, 1), put(oid(1, 1), "", count(1))), on(oid(2, 1), inc(oid(1, 1), "", 1, ids(2, 1, 4, 1)...))},
			[]Place{place(root, "l", ids(1, 1), object(api.List, oid(1, 1))), placeOf(oid(1, 1), oid(2, 1), ids(4, 1, 2, 1), count(2), count(10))}},
		{"a Number is none", []api.Op{put(root, "n", number(5)), put(root, "n", count(5)), inc(root, "n", 1, oid(2, 1))},
			[]Place{place(root, "n", ids(2, 1, 1, 1), count(6), number(5))}},
	} {
		wantPlaces(t, c.what, one(c.ops...), c.want...)
	}
}

// S1: sums wrap round at 64 bits.
func TestCountWraps(t *testing.T) {
	for _, c := range []struct {
		first int
		adds  []int
		want  int
	}{
		{math.MaxInt, []int{1}, math.MinInt},
		{math.MinInt, []int{-1}, math.MaxInt},
		{math.MaxInt, []int{math.MaxInt}, -2},
		{math.MaxInt, []int{math.MaxInt, 2}, 0},
		{math.MaxInt, []int{math.MaxInt, math.MaxInt, 3}, math.MinInt},
		{math.MinInt, []int{math.MinInt}, 0},
		{math.MinInt, []int{math.MinInt, math.MinInt}, math.MinInt},
		{0, []int{-1}, -1},
		{1, []int{math.MinInt, math.MaxInt}, 0},
	} {
		ops := []api.Op{put(root, "n", count(c.first))}
		for _, n := range c.adds {
			ops = append(ops, inc(root, "n", n, oid(1, 1)))
		}
		wantPlaces(t, fmt.Sprint(c), one(ops...), place(root, "n", ids(1, 1), count(c.want)))
		wantText(t, fmt.Sprint(c), one(ops...), fmt.Sprintf(`{"n":%d}`, c.want))
	}
}

// S1: Incs that do not know of each other, nor of the end of what they add to.
func TestCountAtOnce(t *testing.T) {
	l := []api.Change{
		with(1, 1, 1, nil, put(root, "n", count(10))),
		with(2, 1, 2, refs(1, 1), inc(root, "n", 1, oid(1, 1))),
		with(3, 1, 2, refs(1, 1), inc(root, "n", 100, oid(1, 1))),
	}
	wantText(t, "at the same time", l, `{"n":111}`)
	end := with(4, 1, 2, refs(1, 1), put(root, "n", count(7), oid(1, 1)))
	for at := 1; at <= 3; at++ {
		wantPlaces(t, "its end not known", slices.Insert(slices.Clone(l), at, end), place(root, "n", ids(2, 4), count(7)))
	}
}

// S1: ops at an element.
func TestElementOps(t *testing.T) {
	l, x := oid(1, 1), oid(2, 1)
	base := []api.Op{mk(root, "l", api.List), insert(l, root, number(7))}
	list := place(root, "l", ids(1, 1), object(api.List, l))
	for _, c := range []struct {
		what string
		ops  []api.Op
		want []Place
	}{
		{"Insert", nil, []Place{list, placeOf(l, x, ids(2, 1), number(7))}},
		{"Put", []api.Op{on(x, put(l, "", number(8), x))}, []Place{list, placeOf(l, x, ids(3, 1), number(8))}},
		{"Put without Preds", []api.Op{on(x, put(l, "", number(8)))}, []Place{list, placeOf(l, x, ids(3, 1, 2, 1), number(8), number(7))}},
		{"Make", []api.Op{on(x, mk(l, "", api.Map, x))}, []Place{list, placeOf(l, x, ids(3, 1), object(api.Map, oid(3, 1)))}},
		{"Del", []api.Op{on(x, del(l, "", x))}, []Place{list}},
		{"Del, then Put", []api.Op{on(x, del(l, "", x)), on(x, put(l, "", null()))}, []Place{list, placeOf(l, x, ids(4, 1), null())}},
		{"Insert of an object", []api.Op{insertNew(l, x, api.List)}, []Place{list, placeOf(l, x, ids(2, 1), number(7)), placeOf(l, oid(3, 1), ids(3, 1), object(api.List, oid(3, 1)))}},
	} {
		wantPlaces(t, c.what, one(append(base, c.ops...)...), c.want...)
	}
}

// S2
func TestElements(t *testing.T) {
	l := oid(1, 1)
	list := []api.Change{with(1, 1, 1, nil, mk(root, "a", api.List))}
	wantElements(t, "empty", list, l, nil)

	head := append(list, with(1, 2, 2, refs(1, 1), insert(l, root, number(2)), insert(l, root, number(3)), insert(l, root, number(4))))
	wantElements(t, "at the head", head, l, ids(4, 1, 3, 1, 2, 1))
	wantText(t, "at the head", head, `{"a":[4,3,2]}`)

	row := append(list, with(1, 2, 2, refs(1, 1), insert(l, root, number(2)), insert(l, oid(2, 1), number(3)), insert(l, oid(3, 1), number(4))))
	wantElements(t, "behind one another", row, l, ids(2, 1, 3, 1, 4, 1))

	// Two hands go on behind 2@1; what each wrote stays together, the later ids first.
	both := append(row,
		with(2, 1, 5, refs(1, 2), insert(l, oid(2, 1), number(5)), insert(l, oid(5, 2), number(6))),
		with(3, 1, 5, refs(1, 2), insert(l, oid(2, 1), number(50)), insert(l, oid(5, 3), number(60)), insert(l, root, number(70))))
	wantElements(t, "at the same time", both, l, ids(7, 3, 2, 1, 5, 3, 6, 3, 5, 2, 6, 2, 3, 1, 4, 1))
	wantText(t, "at the same time", both, `{"a":[70,2,50,60,5,6,3,4]}`)

	gone := append(both, with(3, 2, 8, refs(2, 1, 3, 1),
		on(oid(2, 1), del(l, "", oid(2, 1))), on(oid(5, 2), del(l, "", oid(5, 2))), insert(l, oid(2, 1), number(8)), del(root, "a", l)))
	wantElements(t, "gone ones, of a list that is gone", gone, l, ids(7, 3, 2, 1, 10, 3, 5, 3, 6, 3, 5, 2, 6, 2, 3, 1, 4, 1))
	wantText(t, "gone", gone, `{}`)
}

// S2: the example of the chapter.
func TestExample(t *testing.T) {
	l := []api.Change{
		with(1, 1, 1, nil, mk(root, "a", api.List)),
		with(1, 2, 2, refs(1, 1), insert(oid(1, 1), root, number(5))),
		with(2, 1, 2, refs(1, 1), insert(oid(1, 1), root, number(6))),
	}
	wantText(t, "the example", l, `{"a":[6,5]}`)
	wantElements(t, "the example", l, oid(1, 1), ids(2, 2, 2, 1))
}

// S2: each list has its own head.
func TestListsApart(t *testing.T) {
	a, b := oid(1, 1), oid(2, 1)
	l := one(mk(root, "a", api.List), mk(root, "b", api.List), insert(a, root, number(3)), insert(b, root, number(4)), insert(a, oid(3, 1), number(5)), insertNew(b, root, api.List), insert(oid(6, 1), root, null()))
	wantElements(t, "of the first", l, a, ids(3, 1, 5, 1))
	wantElements(t, "of the second", l, b, ids(6, 1, 4, 1))
	wantElements(t, "of one in a list", l, oid(6, 1), ids(7, 1))
	wantText(t, "all", l, `{"a":[3,5],"b":[[null],4]}`)
}

// S2: what is no list.
func TestNoList(t *testing.T) {
	l := one(mk(root, "m", api.Map), mk(root, "l", api.List), put(root, "n", number(1)), insert(oid(2, 1), root, number(2)))
	for _, obj := range []api.Id{root, oid(1, 1), oid(3, 1), oid(4, 1), oid(5, 1), oid(2, 2), oid(0, 1), oid(2, 0), oid(-2, -1), oid(math.MaxInt, math.MinInt)} {
		if e, err := Elements(l, obj); e != nil || plain.Told(err) != api.ErrNone {
			t.Errorf("Elements of %v: got %v, %v, want ErrNone", obj, e, err)
		}
	}
	wantElements(t, "a list beside them", l, oid(2, 1), ids(4, 1))
}

// full lays ops on a full book: as many as a change may have in as many as there may be.
func full(op func(i int) api.Op) (l []api.Change) {
	for i := range api.MaxChanges {
		c := with(1, i+1, i*api.MaxOps+1, nil)
		if i > 0 {
			c.Deps = refs(1, i)
		}
		for k := range api.MaxOps {
			c.Ops = append(c.Ops, op(i*api.MaxOps+k))
		}
		l = append(l, c)
	}
	return l
}

// S2, S3: as deep as a book can be.
func TestDeep(t *testing.T) {
	const many = api.MaxChanges * api.MaxOps
	row := full(func(i int) api.Op {
		switch i {
		case 0:
			return mk(root, "a", api.List)
		case 1:
			return insert(oid(1, 1), root, number(1))
		}
		return insert(oid(1, 1), oid(i, 1), number(1))
	})
	var want []api.Id
	for i := 2; i <= many; i++ {
		want = append(want, oid(i, 1))
	}
	wantElements(t, "a long row", row, oid(1, 1), want)
	wantText(t, "a long row", row, `{"a":[1`+strings.Repeat(",1", many-2)+"]}")

	maps := full(func(i int) api.Op { return mk(oid(i, min(i, 1)), "k", api.Map) })
	wantText(t, "maps in maps", maps, strings.Repeat(`{"k":`, many)+"{}"+strings.Repeat("}", many))

	lists := full(func(i int) api.Op {
		if i == 0 {
			return mk(root, "a", api.List)
		}
		return insertNew(oid(i, 1), root, api.List)
	})
	wantText(t, "lists in lists", lists, `{"a":`+strings.Repeat("[", many)+strings.Repeat("]", many)+"}")
}

// S3: keys by bytes.
func TestKeys(t *testing.T) {
	keys := []string{"\x00", " ", "\"", "10", "9", "B", "\\", "a", "a\x00", "aa", "b", "z", "\x7f", "\u00e4", "\xff", strings.Repeat("\xff", 20)}
	var ops []api.Op
	for _, k := range slices.Backward(keys) {
		ops = append(ops, put(root, k, null()))
	}
	_, places, err := Of(one(ops...))
	var got []string
	for _, p := range places {
		got = append(got, p.Key)
	}
	if !slices.Equal(got, keys) || err != nil {
		t.Errorf("keys: got %q, %v, want %q", got, err, keys)
	}
	wantText(t, "keys", one(ops...), `{"\00":null," ":null,"\"":null,"10":null,"9":null,"B":null,"\\":null,"a":null,"a\00":null,"aa":null,"b":null,"z":null,"\7f":null,"\c3\a4":null,"\ff":null,"`+strings.Repeat(`\ff`, 20)+`":null}`)
}

// S3: all kinds of values, at keys and at elements.
func TestKinds(t *testing.T) {
	values := []api.Value{null(), truth(0), truth(1), number(0), number(math.MinInt), count(math.MaxInt), text(""), text("a\"b\n")}
	ops, l := []api.Op{mk(root, "l", api.List), mk(root, "m", api.Map)}, oid(1, 1)
	last := root
	for i, v := range values {
		ops = append(ops, insert(l, last, v), put(oid(2, 1), string(rune('a'+i)), v))
		last = oid(3+2*i, 1)
	}
	ops = append(ops, insertNew(l, last, api.Map), insertNew(l, oid(19, 1), api.List))
	wantText(t, "all kinds", one(ops...),
		`{"l":[null,false,true,0,-9223372036854775808,9223372036854775807,"","a\"b\0a",{},[]],`+
			`"m":{"a":null,"b":false,"c":true,"d":0,"e":-9223372036854775808,"f":9223372036854775807,"g":"","h":"a\"b\0a"}}`)
}

// S3: the text has the first value of each place alone.
func TestFirstValue(t *testing.T) {
	l := []api.Change{
		with(1, 1, 1, nil, mk(root, "a", api.Map), put(oid(1, 1), "x", number(1))),
		with(2, 1, 1, nil, mk(root, "a", api.List), insert(oid(1, 2), root, number(2))),
	}
	wantText(t, "two at a key", l, `{"a":[2]}`)
	wantPlaces(t, "two at a key", l,
		place(root, "a", ids(1, 2, 1, 1), object(api.List, oid(1, 2)), object(api.Map, oid(1, 1))),
		place(oid(1, 1), "x", ids(2, 1), number(1)),
		placeOf(oid(1, 2), oid(2, 2), ids(2, 2), number(2)))
	l = append(l, with(3, 1, 3, refs(2, 1), on(oid(2, 2), put(oid(1, 2), "", text("x"))), del(root, "a", oid(1, 2))))
	wantText(t, "the first is over", l, `{"a":{"x":1}}`)
}

// S3: the order of places, also of objects that no place has any more.
func TestPlaces(t *testing.T) {
	l := []api.Change{
		with(2, 1, 1, nil, put(root, "z", number(1)), mk(root, "m", api.Map), mk(oid(2, 2), "in", api.List)),
		with(1, 1, 2, nil, mk(root, "l", api.List), insert(oid(2, 1), root, number(3)), insertNew(oid(2, 1), root, api.Map)),
		with(3, 1, 10, refs(1, 1, 2, 1),
			put(oid(4, 1), "y", null()), put(oid(4, 1), "Y", null()), insert(oid(3, 2), root, truth(0)), put(oid(2, 2), "a", text("a")),
			del(root, "l", oid(2, 1)), put(root, "m", number(15), oid(2, 2))),
	}
	wantPlaces(t, "by Obj, Key and Elements", l,
		place(root, "m", ids(15, 3), number(15)),
		place(root, "z", ids(1, 2), number(1)),
		placeOf(oid(2, 1), oid(4, 1), ids(4, 1), object(api.Map, oid(4, 1))),
		placeOf(oid(2, 1), oid(3, 1), ids(3, 1), number(3)),
		place(oid(2, 2), "a", ids(13, 3), text("a")),
		place(oid(2, 2), "in", ids(3, 2), object(api.List, oid(3, 2))),
		placeOf(oid(3, 2), oid(12, 3), ids(12, 3), truth(0)),
		place(oid(4, 1), "Y", ids(11, 3), null()),
		place(oid(4, 1), "y", ids(10, 3), null()))
	wantText(t, "what can still be got at", l, `{"m":15,"z":1}`)
}

// S3: maps in lists and lists in maps, empty ones too.
func TestNested(t *testing.T) {
	l := one(
		mk(root, "m", api.Map), mk(oid(1, 1), "l", api.List), insertNew(oid(2, 1), root, api.Map), insertNew(oid(2, 1), oid(3, 1), api.List),
		insertNew(oid(4, 1), root, api.List), insertNew(oid(4, 1), oid(5, 1), api.Map), put(oid(6, 1), "x", text("y")), mk(oid(1, 1), "e", api.Map), mk(oid(3, 1), "f", api.List))
	wantText(t, "nested", l, `{"m":{"e":{},"l":[{"f":[]},[[],{"x":"y"}]]}}`)
}

func copyOf(t *testing.T, l []api.Change) (out []api.Change) {
	t.Helper()
	for _, c := range l {
		b, err := change.Encode(c)
		if err != nil {
			t.Fatal(err)
		}
		c, _, err = change.Decode(b)
		if err != nil {
			t.Fatal(err)
		}
		out = append(out, c)
	}
	return out
}

// P2: what is handed in stays as it is, and what lies behind it; what is answered is not shared.
func TestMemory(t *testing.T) {
	l := []api.Change{
		with(1, 1, 1, nil, mk(root, "a", api.List), insert(oid(1, 1), root, count(5)), insert(oid(1, 1), root, number(6))),
		with(2, 1, 4, refs(1, 1), on(oid(2, 1), put(oid(1, 1), "", number(9))), on(oid(2, 1), inc(oid(1, 1), "", 1, oid(2, 1))), put(root, "a", null())),
	}
	want := copyOf(t, l)
	spare := append(slices.Clone(l), with(9, 9, 9, nil))
	_, before, _ := Of(spare[:2])
	elements, _ := Elements(spare[:2], oid(1, 1))
	if !reflect.DeepEqual(copyOf(t, l), want) || !reflect.DeepEqual(spare[2], with(9, 9, 9, nil)) {
		t.Errorf("handed in: got %v, want %v", l, want)
	}
	_, after, _ := Of(l)
	for _, p := range after {
		clear(p.All[:cap(p.All)])
		clear(p.Ids[:cap(p.Ids)])
	}
	wantPlaces(t, "again", l, before...)
	for i := range before {
		before[i].Ids = append(before[i].Ids, oid(9, 9))
		before[i].All = append(before[i].All, number(9))
	}
	clear(elements)
	wantElements(t, "again", l, oid(1, 1), ids(3, 1, 2, 1))
	l[0].Ops[1].Value.Num = 50
	wantText(t, "changed", l, `{"a":null}`)
	wantPlaces(t, "changed", l,
		place(root, "a", ids(6, 2, 1, 1), null(), object(api.List, oid(1, 1))),
		placeOf(oid(1, 1), oid(3, 1), ids(3, 1), number(6)),
		placeOf(oid(1, 1), oid(2, 1), ids(4, 2, 2, 1), number(9), count(51)))
}

// S1, S3: changes that are added one by one come to what Of and Text tell of all.
func TestSum(t *testing.T) {
	s := NewSum()
	if s.Text() != "{}" || s.Kind(oid(0, 0)) != api.Map || s.Kind(oid(1, 1)) != 0 {
		t.Errorf("of no changes: got %s", s.Text())
	}
	s.Add(with(1, 1, 1, nil, mk(oid(0, 0), "l", api.List), mk(oid(0, 0), "m", api.Map), insert(oid(1, 1), oid(0, 0), number(5))))
	s.Add(with(2, 1, 4, refs(1, 1), put(oid(0, 0), "m", number(6), oid(2, 1))))
	if got, want := s.Text(), `{"l":[5],"m":6}`; got != want {
		t.Errorf("Text: got %s, want %s", got, want)
	}
	if s.Kind(oid(1, 1)) != api.List || s.Kind(oid(2, 1)) != api.Map || s.Kind(oid(3, 1)) != 0 {
		t.Error("Kind of a list, of a map that is gone, or of none")
	}
	for key, want := range map[string]Place{"m": place(oid(0, 0), "m", ids(4, 2), number(6)), "none": {Key: "none"}} {
		if got := s.At(oid(0, 0), key); !reflect.DeepEqual(got, want) {
			t.Errorf("At %q: got %v, want %v", key, got, want)
		}
	}
	if got, want := s.Places(oid(1, 1)), []Place{placeOf(oid(1, 1), oid(3, 1), ids(3, 1), number(5))}; !reflect.DeepEqual(got, want) {
		t.Errorf("Places: got %v, want %v", got, want)
	}
}
