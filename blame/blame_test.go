package blame

import (
	"fmt"
	"slices"
	"testing"

	"commonbook/api"
	"commonbook/doc"
	"commonbook/plain"
	"commonbook/state"
)

var root = api.Id{}

func oid(num, actor int) api.Id { return api.Id{Num: num, Actor: actor} }

func ref(actor, seq int) api.Ref { return api.Ref{Actor: actor, Seq: seq} }

// refs of numbers: an actor, a Seq, and so on.
func refs(n ...int) (l []api.Ref) {
	for i := 0; i < len(n); i += 2 {
		l = append(l, ref(n[i], n[i+1]))
	}
	return l
}

func truth(n int) api.Value { return api.Value{Kind: api.Truth, Num: n} }

func number(n int) api.Value { return api.Value{Kind: api.Number, Num: n} }

func count(n int) api.Value { return api.Value{Kind: api.Count, Num: n} }

func text(s string) api.Value { return api.Value{Kind: api.Text, Text: s} }

func put(obj api.Id, key string, v api.Value, preds ...api.Id) api.Op {
	return api.Op{Kind: api.Put, Obj: obj, Key: key, Value: v, Preds: preds}
}

func mk(obj api.Id, key string, kind int, preds ...api.Id) api.Op {
	return api.Op{Kind: api.Make, Obj: obj, Key: key, Value: api.Value{Kind: kind}, Preds: preds}
}

func del(obj api.Id, key string, preds ...api.Id) api.Op {
	return api.Op{Kind: api.Del, Obj: obj, Key: key, Preds: preds}
}

func inc(obj api.Id, key string, n int, preds ...api.Id) api.Op {
	return api.Op{Kind: api.Inc, Obj: obj, Key: key, Value: number(n), Preds: preds}
}

func insert(list, elem api.Id, v api.Value) api.Op {
	return api.Op{Kind: api.Put, Obj: list, Elem: elem, Insert: true, Value: v}
}

func insertNew(list, elem api.Id, kind int) api.Op {
	return api.Op{Kind: api.Make, Obj: list, Elem: elem, Insert: true, Value: api.Value{Kind: kind}}
}

// on lays an op of a key on an element.
func on(elem api.Id, op api.Op) api.Op {
	op.Key, op.Elem = "", elem
	return op
}

// with is a change that hangs on deps.
func with(actor, seq, start int, deps []api.Ref, ops ...api.Op) api.Change {
	return api.Change{Actor: actor, Seq: seq, Start: start, Deps: deps, Ops: ops}
}

// one is the one change of actor 1, with ops from 1@1 on.
func one(ops ...api.Op) []api.Change { return []api.Change{with(1, 1, 1, nil, ops...)} }

func must(t testing.TB, err error) {
	t.Helper()
	if err != nil {
		t.Fatal(err)
	}
}

// made is for calls that give the id of what they make.
func made(t testing.TB) func(api.Id, error) api.Id {
	return func(a api.Id, err error) api.Id {
		t.Helper()
		must(t, err)
		return a
	}
}

func hand(t testing.TB, actor int) *doc.Doc {
	t.Helper()
	d, err := doc.New(actor)
	must(t, err)
	return d
}

func fork(t testing.TB, d *doc.Doc, actor int) *doc.Doc {
	t.Helper()
	f, err := d.Fork(actor)
	must(t, err)
	return f
}

// commit gives what was committed.
func commit(t testing.TB, d *doc.Doc) api.Ref {
	t.Helper()
	r, err := d.Commit()
	must(t, err)
	return r
}

func merge(t testing.TB, d, o *doc.Doc) {
	t.Helper()
	_, err := d.Merge(o)
	must(t, err)
}

func wantMade(t testing.TB, what string, l []api.Change, n api.Id, want api.Ref) {
	t.Helper()
	if got, err := Made(l, n); got != want || err != nil {
		t.Errorf("%s: Made of %v: got %v, %v, want %v", what, n, got, err, want)
	}
}

func wantNotMade(t testing.TB, what string, l []api.Change, n api.Id, want api.Errno) {
	t.Helper()
	if got, err := Made(l, n); got != (api.Ref{}) || plain.Told(err) != want {
		t.Errorf("%s: Made of %v: got %v, %v, want %v", what, n, got, err, want)
	}
}

func wantWho(t testing.TB, what string, l []api.Change, obj api.Id, key string, want ...api.Ref) {
	t.Helper()
	if got, err := Who(l, obj, key); !slices.Equal(got, want) || err != nil {
		t.Errorf("%s: Who of %v, %q: got %v, %v, want %v", what, obj, key, got, err, want)
	}
}

func wantNobody(t testing.TB, what string, l []api.Change, obj api.Id, key string, want api.Errno) {
	t.Helper()
	if got, err := Who(l, obj, key); got != nil || plain.Told(err) != want {
		t.Errorf("%s: Who of %v, %q: got %v, %v, want %v", what, obj, key, got, err, want)
	}
}

func wantShares(t testing.TB, what string, l []api.Change, want ...Share) {
	t.Helper()
	if got, err := Shares(l); !slices.Equal(got, want) || err != nil {
		t.Errorf("%s: Shares: got %v, %v, want %v", what, got, err, want)
	}
}

// wantText makes sure that changes are those which a test means.
func wantText(t testing.TB, what string, l []api.Change, want string) {
	t.Helper()
	if got, err := state.Text(l); got != want || err != nil {
		t.Fatalf("%s: Text: got %q, %v, want %q", what, got, err, want)
	}
}

// A1: of no changes nobody made anything, and nobody has a share.
func TestNoChanges(t *testing.T) {
	for _, l := range [][]api.Change{nil, {}} {
		wantShares(t, "no changes", l)
		for _, key := range []string{"", "a"} {
			wantWho(t, "no changes", l, root, key)
			wantNobody(t, "no changes", l, oid(1, 1), key, api.ErrNone)
		}
		for _, n := range append(farOff(), root, oid(1, 1)) {
			wantNotMade(t, "no changes", l, n, api.ErrNone)
		}
	}
	// Changes without ops are changes.
	wantShares(t, "no ops", one(), Share{1, 1, 0, 0})
	wantWho(t, "no ops", one(), root, "a")
	wantNotMade(t, "no ops", one(), oid(1, 1), api.ErrNone)
	wantNotMade(t, "no ops", one(), root, api.ErrNone)
}

// threeHands has ops 3@1 to 7@1 of (1, 1), 8@2 of (2, 1), none of (2, 2), 10@1 to 12@1 of (1, 2), 4@3 and 5@3 of (3, 1), and 20@2 of (2, 3).
func threeHands() []api.Change {
	a := func(n int) api.Op { return put(root, "a", number(n)) }
	return []api.Change{
		with(1, 1, 3, nil, a(1), a(2), a(3), a(4), a(5)),
		with(2, 1, 8, refs(1, 1), a(6)),
		with(2, 2, 9, refs(2, 1)),
		with(1, 2, 10, refs(2, 1), a(7), a(8), a(9)),
		with(3, 1, 4, nil, a(10), a(11)),
		with(2, 3, 20, refs(1, 2, 2, 2), a(12)),
	}
}

// A1: Made: the first, a middle and the last op of each change, and none ahead of it or behind.
func TestMade(t *testing.T) {
	l := threeHands()
	makers := map[api.Id]api.Ref{oid(8, 2): ref(2, 1), oid(4, 3): ref(3, 1), oid(5, 3): ref(3, 1), oid(20, 2): ref(2, 3)}
	for num := 3; num <= 7; num++ {
		makers[oid(num, 1)] = ref(1, 1)
	}
	for num := 10; num <= 12; num++ {
		makers[oid(num, 1)] = ref(1, 2)
	}
	if len(makers) != 12 {
		t.Fatal("there are 12 ops")
	}
	for actor := -1; actor <= 5; actor++ {
		for num := -2; num <= 45; num++ {
			if want, ok := makers[oid(num, actor)]; ok {
				wantMade(t, "three hands", l, oid(num, actor), want)
			} else {
				wantNotMade(t, "three hands", l, oid(num, actor), api.ErrNone)
			}
		}
	}
	for _, n := range farOff() {
		wantNotMade(t, "far off", l, n, api.ErrNone)
	}
}

// A1: Made: the same, said number by number.
func TestMadeByNumbers(t *testing.T) {
	l := threeHands()
	wantMade(t, "the first change's first op", l, oid(3, 1), ref(1, 1))
	wantMade(t, "its middle one", l, oid(5, 1), ref(1, 1))
	wantMade(t, "its last one", l, oid(7, 1), ref(1, 1))
	wantNotMade(t, "ahead of its first one", l, oid(2, 1), api.ErrNone)
	wantNotMade(t, "behind its last one", l, oid(8, 1), api.ErrNone)
	wantMade(t, "a change of one op", l, oid(8, 2), ref(2, 1))
	wantNotMade(t, "ahead of it", l, oid(7, 2), api.ErrNone)
	wantNotMade(t, "where a change without ops starts", l, oid(9, 2), api.ErrNone)
	wantNotMade(t, "ahead of its second change", l, oid(9, 1), api.ErrNone)
	wantMade(t, "a middle change's first op", l, oid(10, 1), ref(1, 2))
	wantMade(t, "its middle one", l, oid(11, 1), ref(1, 2))
	wantMade(t, "its last one", l, oid(12, 1), ref(1, 2))
	wantNotMade(t, "behind it", l, oid(13, 1), api.ErrNone)
	wantMade(t, "the last change", l, oid(20, 2), ref(2, 3))
	wantNotMade(t, "the number of another actor's op", l, oid(20, 1), api.ErrNone)
	wantNotMade(t, "an actor that has none", l, oid(3, 4), api.ErrNone)
	wantNotMade(t, "the root", l, root, api.ErrNone)
}

// A1: Made: ops of all kinds, also those that are over.
func TestMadeOfAllKinds(t *testing.T) {
	l := append(one(
		put(root, "a", count(1)), inc(root, "a", 1, oid(1, 1)), del(root, "a", oid(1, 1)),
		mk(root, "l", api.List), insert(oid(4, 1), root, number(1)), on(oid(5, 1), del(oid(4, 1), "", oid(5, 1))),
	), with(2, 1, 7, refs(1, 1),
		put(root, "b", truth(1)), mk(root, "b", api.Map, oid(7, 2)), del(root, "b", oid(8, 2)),
		insertNew(oid(4, 1), oid(5, 1), api.List), on(oid(5, 1), put(oid(4, 1), "", text("t"))),
	))
	wantText(t, "all kinds", l, `{"l":["t",[]]}`)
	for num := 1; num <= 6; num++ {
		wantMade(t, "all kinds", l, oid(num, 1), ref(1, 1))
	}
	for num := 7; num <= 11; num++ {
		wantMade(t, "all kinds", l, oid(num, 2), ref(2, 1))
	}
	wantNotMade(t, "behind all", l, oid(12, 2), api.ErrNone)
	wantNotMade(t, "of the other one", l, oid(6, 2), api.ErrNone)
	wantNotMade(t, "of the other one", l, oid(7, 1), api.ErrNone)
}

// A1: Made: at the ends of what numbers and actors may be, and in changes of as many ops as may be.
func TestMadeAtTheEnds(t *testing.T) {
	many := slices.Repeat([]api.Op{put(root, "a", number(1))}, api.MaxOps)
	last := api.MaxNum - api.MaxOps + 1
	l := []api.Change{
		with(api.MaxActor, 1, 1, nil, many...), with(1, 1, 1, nil, many[0]),
		with(api.MaxActor, 2, last, refs(api.MaxActor, 1), many...),
	}
	for i := range api.MaxOps {
		wantMade(t, "the first one's", l, oid(1+i, api.MaxActor), ref(api.MaxActor, 1))
		wantMade(t, "the last one's", l, oid(last+i, api.MaxActor), ref(api.MaxActor, 2))
	}
	wantMade(t, "the least id", l, oid(1, 1), ref(1, 1))
	wantNotMade(t, "behind 40 ops", l, oid(41, api.MaxActor), api.ErrNone)
	wantNotMade(t, "ahead of the last 40", l, oid(last-1, api.MaxActor), api.ErrNone)
	wantNotMade(t, "behind the last number", l, oid(api.MaxNum+1, api.MaxActor), api.ErrNone)
	wantNotMade(t, "another actor's", l, oid(api.MaxNum, api.MaxActor-1), api.ErrNone)
}

// A1: Who: a key with one value, and with none.
func TestWho(t *testing.T) {
	l := append(one(put(root, "a", number(1)), put(root, "b", api.Value{})), with(2, 1, 3, refs(1, 1), put(root, "c", truth(0))))
	wantWho(t, "one value", l, root, "a", ref(1, 1))
	wantWho(t, "a value that is Nil", l, root, "b", ref(1, 1))
	wantWho(t, "of another hand", l, root, "c", ref(2, 1))
	for _, key := range []string{"", "d", "A", "aa", "a\x00", "ä", "\xff"} {
		wantWho(t, "none", l, root, key)
	}
	// What only another hand's change says is not there without it.
	wantWho(t, "not yet", l[:1], root, "c")
}

// A1: Who: a value that was put anew is of who put it last, and one that was taken away of nobody.
func TestWhoAnew(t *testing.T) {
	l := one(put(root, "a", number(1)))
	wantWho(t, "at first", l, root, "a", ref(1, 1))
	l = append(l, with(2, 1, 2, refs(1, 1), put(root, "a", number(1), oid(1, 1))))
	wantWho(t, "the same put anew", l, root, "a", ref(2, 1))
	l = append(l, with(1, 2, 3, refs(2, 1), mk(root, "a", api.List, oid(2, 2))))
	wantWho(t, "a list in its place", l, root, "a", ref(1, 2))
	l = append(l, with(3, 1, 4, refs(1, 2), del(root, "a", oid(3, 1))))
	wantWho(t, "taken away", l, root, "a")
	l = append(l, with(2, 2, 5, refs(3, 1), put(root, "a", number(1))))
	wantWho(t, "put again", l, root, "a", ref(2, 2))
	// Said by one that knew of the first value alone.
	l = append(l, with(4, 1, 2, refs(1, 1), put(root, "a", number(1), oid(1, 1))))
	wantWho(t, "and by one that knew little", l, root, "a", ref(2, 2), ref(4, 1))
}

// A1: Who: several values that were said at the same time, in the order of the values: by their ids, falling.
func TestWhoSeveral(t *testing.T) {
	l := []api.Change{
		with(1, 1, 2, nil, put(root, "k", number(1))),
		with(3, 1, 1, nil, put(root, "k", text("c"))),
		with(2, 1, 1, nil, mk(root, "k", api.Map), put(root, "k", api.Value{})),
		with(4, 1, 9, nil, put(root, "j", number(4)), put(root, "k", number(4))),
		with(99, 1, 1, nil, put(root, "k", number(99))),
	}
	want := []api.Ref{ref(4, 1), ref(2, 1), ref(1, 1), ref(99, 1), ref(3, 1), ref(2, 1)}
	wantWho(t, "at the same time", l, root, "k", want...)
	slices.Reverse(l)
	wantWho(t, "they came backwards", l, root, "k", want...)
	wantWho(t, "of another key", l, root, "j", ref(4, 1))
	l = append(l, with(3, 2, 20, refs(2, 1, 3, 1, 4, 1), put(root, "k", number(20), oid(1, 3), oid(2, 2), oid(10, 4))))
	wantWho(t, "three are over", l, root, "k", ref(3, 2), ref(1, 1), ref(99, 1), ref(2, 1))
}

// A1: Who: of one change that says several things, it stands once for each.
func TestWhoTwiceOne(t *testing.T) {
	k := put(root, "k", number(1))
	wantWho(t, "three of one", one(k, k, k), root, "k", refs(1, 1, 1, 1, 1, 1)...)
	l := append(one(k, k), with(1, 2, 3, refs(1, 1), k), with(2, 1, 1, nil, k, k, k))
	wantWho(t, "between each other", l, root, "k", refs(2, 1, 1, 2, 2, 1, 1, 1, 2, 1, 1, 1)...)
	full := slices.Repeat([]api.Op{k}, api.MaxOps)
	wantWho(t, "as many as may be", one(full...), root, "k", slices.Repeat(refs(1, 1), api.MaxOps)...)
}

// A1: Who: a count is of who put it, whoever adds to it.
func TestWhoCount(t *testing.T) {
	l := append(one(put(root, "n", count(1))),
		with(2, 1, 2, refs(1, 1), inc(root, "n", 5, oid(1, 1))), with(3, 1, 2, refs(1, 1), inc(root, "n", 7, oid(1, 1))))
	wantText(t, "a count", l, `{"n":13}`)
	wantWho(t, "others added to it", l, root, "n", ref(1, 1))
	l = append(l, with(2, 2, 3, refs(2, 1, 3, 1), put(root, "n", count(0), oid(1, 1))))
	wantWho(t, "put anew", l, root, "n", ref(2, 2))
	// One that is added to behind its end is over all the same.
	l = append(l, with(4, 1, 2, refs(1, 1), inc(root, "n", 1, oid(1, 1))))
	wantWho(t, "added to what is over", l, root, "n", ref(2, 2))
}

// A1: Who: of a map that was made, of one in a list, and of one that no place has any more.
func TestWhoOfMaps(t *testing.T) {
	d := hand(t, 1)
	m := made(t)(d.Make(root, "m", api.Map))
	list := made(t)(d.Make(root, "l", api.List))
	in := made(t)(d.InsertNew(list, 0, api.Map))
	commit(t, d)
	e := fork(t, d, 2)
	must(t, e.Put(m, "a", number(1)))
	must(t, e.Put(in, "a", number(2)))
	deep := made(t)(e.Make(in, "deep", api.Map))
	commit(t, e)
	must(t, e.Put(deep, "a", number(3)))
	commit(t, e)
	must(t, d.Put(m, "a", number(4)))
	commit(t, d)
	merge(t, d, e)
	wantOf := func(what string) {
		t.Helper()
		wantWho(t, what, d.All(), m, "a", ref(2, 1), ref(1, 2))
		wantWho(t, what, d.All(), in, "a", ref(2, 1))
		wantWho(t, what, d.All(), in, "deep", ref(2, 1))
		wantWho(t, what, d.All(), deep, "a", ref(2, 2))
		wantWho(t, what, d.All(), deep, "deep")
		wantWho(t, what, d.All(), root, "a")
	}
	wantOf("maps")
	must(t, d.Del(root, "m"))
	must(t, d.Remove(list, 0))
	commit(t, d)
	wantText(t, "gone", d.All(), `{"l":[]}`)
	wantOf("maps that are gone")
	must(t, d.Del(root, "l"))
	commit(t, d)
	wantText(t, "all gone", d.All(), `{}`)
	wantOf("maps in what is gone")
	wantWho(t, "the key it had", d.All(), root, "m")
	wantNobody(t, "a list that is gone", d.All(), list, "a", api.ErrKind)
	// And what is said there now, where no place has them.
	must(t, e.Put(in, "a", text("late")))
	commit(t, e)
	merge(t, d, e)
	wantWho(t, "said there later", d.All(), in, "a", ref(2, 3))
}

// A1: Who: keys are bytes, from none to as many as may be, and of one that is too long there is nothing.
func TestWhoKeys(t *testing.T) {
	long := "12345678901234567890"
	l := append(one(put(root, long, number(1)), put(root, "\x00", number(2)), put(root, "\xff\xfe", number(3))),
		with(2, 1, 1, nil, put(root, long[1:], number(4))))
	wantWho(t, "20 bytes", l, root, long, ref(1, 1))
	wantWho(t, "19 bytes", l, root, long[1:], ref(2, 1))
	wantWho(t, "19 others", l, root, long[:19])
	wantWho(t, "a nought", l, root, "\x00", ref(1, 1))
	wantWho(t, "no UTF-8", l, root, "\xff\xfe", ref(1, 1))
	for _, key := range []string{"", long + "1", long + "\x00", long + long, string(make([]byte, 1<<20))} {
		wantWho(t, fmt.Sprint("a key of ", len(key)), l, root, key)
	}
}

// A1: Shares: how many changes, ops and values, of each actor, rising, in whatever order their changes came.
func TestShares(t *testing.T) {
	l := []api.Change{
		with(7, 1, 1, nil, put(root, "a", number(1)), put(root, "b", number(2))),
		with(3, 1, 3, refs(7, 1), put(root, "a", number(3), oid(1, 7))),
		with(99, 1, 1, nil),
		with(7, 2, 4, refs(3, 1), put(root, "c", number(4)), put(root, "d", number(5)), del(root, "b", oid(2, 7))),
		with(1, 1, 1, nil, put(root, "a", number(6)), put(root, "e", number(7))),
		with(99, 2, 1, refs(99, 1)),
	}
	wantText(t, "shares", l, `{"a":3,"c":4,"d":5,"e":7}`)
	want := []Share{{1, 1, 2, 2}, {3, 1, 1, 1}, {7, 2, 5, 2}, {99, 2, 0, 0}}
	wantShares(t, "shares", l, want...)
	wantShares(t, "in another order", []api.Change{l[4], l[0], l[1], l[2], l[5], l[3]}, want...)
	wantShares(t, "and in another one", []api.Change{l[2], l[5], l[0], l[4], l[1], l[3]}, want...)
	wantShares(t, "fewer of them", l[:3], Share{3, 1, 1, 1}, Share{7, 1, 2, 1}, Share{99, 1, 0, 0})
	wantShares(t, "one of them", l[:1], Share{7, 1, 2, 2})
}

// A1: Shares: an op that makes no value, and values that are over, count as ops alone.
func TestSharesOver(t *testing.T) {
	l := one(put(root, "a", count(1)))
	wantShares(t, "a count", l, Share{1, 1, 1, 1})
	l = append(l, with(2, 1, 2, refs(1, 1), inc(root, "a", 1, oid(1, 1)), inc(root, "a", 2, oid(1, 1))))
	wantShares(t, "added to by another one", l, Share{1, 1, 1, 1}, Share{2, 1, 2, 0})
	l = append(l, with(3, 1, 4, refs(2, 1), put(root, "a", number(1), oid(1, 1)), put(root, "a", number(2), oid(4, 3))))
	wantShares(t, "put anew twice", l, Share{1, 1, 1, 0}, Share{2, 1, 2, 0}, Share{3, 1, 2, 1})
	l = append(l, with(2, 2, 6, refs(3, 1), del(root, "a", oid(5, 3))))
	wantShares(t, "taken away", l, Share{1, 1, 1, 0}, Share{2, 2, 3, 0}, Share{3, 1, 2, 0})
	l = append(l, with(2, 3, 7, refs(2, 2), put(root, "a", api.Value{})))
	wantShares(t, "Nil is a value", l, Share{1, 1, 1, 0}, Share{2, 3, 4, 1}, Share{3, 1, 2, 0})
}

// A1: Shares: all values of a place count, not the first alone.
func TestSharesSeveral(t *testing.T) {
	a := put(root, "a", number(1))
	l := append(one(a, a, put(root, "b", number(2))), with(2, 1, 9, nil, a), with(3, 1, 1, nil, a, a, a))
	wantShares(t, "six at one key", l, Share{1, 1, 3, 3}, Share{2, 1, 1, 1}, Share{3, 1, 3, 3})
	l = append(l, with(4, 1, 20, refs(1, 1, 3, 1), put(root, "a", number(4), oid(1, 1), oid(1, 3), oid(3, 3))))
	wantShares(t, "three are over", l, Share{1, 1, 3, 2}, Share{2, 1, 1, 1}, Share{3, 1, 3, 1}, Share{4, 1, 1, 1})
}

// A1: Shares: values in maps and in lists, elements that were removed, and those that have several values.
func TestSharesOfObjects(t *testing.T) {
	d := hand(t, 5)
	list := made(t)(d.Make(root, "l", api.List))
	for i := range 4 {
		must(t, d.Insert(list, i, number(i)))
	}
	m := made(t)(d.InsertNew(list, 4, api.Map))
	must(t, d.Put(m, "k", number(9)))
	commit(t, d)
	wantShares(t, "a list", d.All(), Share{5, 1, 7, 7})
	e := fork(t, d, 2)
	must(t, e.Remove(list, 0))
	must(t, e.Set(list, 0, text("two's")))
	must(t, e.Put(m, "k", text("two's")))
	commit(t, e)
	wantShares(t, "another hand's", e.All(), Share{2, 1, 3, 2}, Share{5, 1, 7, 4})
	must(t, d.Set(list, 1, text("five's")))
	must(t, d.Put(m, "k", text("five's")))
	commit(t, d)
	wantShares(t, "what it has itself", d.All(), Share{5, 2, 9, 7})
	merge(t, d, e)
	wantText(t, "both", d.All(), `{"l":["two's",2,3,{"k":"two's"}]}`)
	wantShares(t, "both", d.All(), Share{2, 1, 3, 2}, Share{5, 2, 9, 6})
}

// A1: Shares: what stands in things that are gone counts, too.
func TestSharesGone(t *testing.T) {
	d := hand(t, 1)
	m := made(t)(d.Make(root, "m", api.Map))
	list := made(t)(d.Make(m, "l", api.List))
	commit(t, d)
	e := fork(t, d, 2)
	in := made(t)(e.InsertNew(list, 0, api.Map))
	must(t, e.Put(in, "k", count(3)))
	must(t, e.Insert(list, 1, text("t")))
	commit(t, e)
	merge(t, d, e)
	wantShares(t, "there", d.All(), Share{1, 1, 2, 2}, Share{2, 1, 3, 3})
	must(t, d.Del(root, "m"))
	commit(t, d)
	wantText(t, "gone", d.All(), `{}`)
	wantShares(t, "gone", d.All(), Share{1, 2, 3, 1}, Share{2, 1, 3, 3})
	must(t, e.Put(in, "k", number(4)))
	commit(t, e)
	merge(t, d, e)
	wantShares(t, "said there later", d.All(), Share{1, 2, 3, 1}, Share{2, 2, 4, 3})
}

// A1: a book that is as full as may be.
func TestFullBook(t *testing.T) {
	l := []api.Change{}
	start := 1
	for seq := 1; seq <= api.MaxChanges; seq++ {
		c := with(1+seq%2, (seq+1)/2, start, nil)
		if seq > 1 {
			c.Deps = []api.Ref{{Actor: l[seq-2].Actor, Seq: l[seq-2].Seq}}
		}
		for i := range api.MaxOps {
			c.Ops = append(c.Ops, put(root, fmt.Sprint(i), number(seq)))
		}
		start += api.MaxOps
		l = append(l, c)
	}
	half := api.MaxChanges / 2
	wantShares(t, "full", l, Share{1, half, half * api.MaxOps, half * api.MaxOps}, Share{2, half, half * api.MaxOps, half * api.MaxOps})
	var want []api.Ref
	for _, c := range slices.Backward(l) {
		want = append(want, ref(c.Actor, c.Seq))
	}
	for _, key := range []string{"0", "7", "39"} {
		wantWho(t, "full", l, root, key, want...)
	}
	for i, c := range l {
		wantMade(t, "full", l, oid(c.Start, c.Actor), ref(c.Actor, c.Seq))
		wantMade(t, "full", l, oid(c.Start+api.MaxOps-1, c.Actor), ref(c.Actor, c.Seq))
		wantNotMade(t, "full", l, oid(c.Start+api.MaxOps, c.Actor), api.ErrNone)
		wantNotMade(t, "full", l, oid(i*api.MaxOps, c.Actor), api.ErrNone)
	}
}
