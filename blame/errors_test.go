package blame

import (
	"math"
	"reflect"
	"slices"
	"strings"
	"testing"

	"commonbook/api"
	"commonbook/plain"
)

// wantTold asks all three calls for an error with which nothing else is told.
func wantTold(t testing.TB, what string, l []api.Change, obj, n api.Id, key string, want api.Errno) {
	t.Helper()
	wantNobody(t, what, l, obj, key, want)
	wantNotMade(t, what, l, n, want)
	wantNoShares(t, what, l, want)
}

func wantNoShares(t testing.TB, what string, l []api.Change, want api.Errno) {
	t.Helper()
	if got, err := Shares(l); got != nil || plain.Told(err) != want {
		t.Errorf("%s: Shares: got %v, %v, want %v", what, got, err, want)
	}
}

// varied has ids of all sorts: objects are the root, the list 1@1, the maps 7@1 and 12@2, and the lists 8@1, 13@2.
func varied() []api.Change {
	l := []api.Change{
		with(1, 1, 1, nil, mk(root, "l", api.List), insert(oid(1, 1), root, number(0)), insert(oid(1, 1), oid(2, 1), count(1))),
		with(1, 2, 4, refs(1, 1), on(oid(3, 1), inc(oid(1, 1), "", 4, oid(3, 1))), on(oid(2, 1), del(oid(1, 1), "", oid(2, 1))),
			put(root, "k", count(7)), mk(root, "m", api.Map), mk(oid(7, 1), "other", api.List), insert(oid(8, 1), root, text("t"))),
		with(2, 1, 10, refs(1, 2), inc(root, "k", 1, oid(6, 1)), put(oid(7, 1), "k", truth(1)), mk(root, "gone", api.Map),
			mk(oid(12, 2), "bare", api.List), del(root, "gone", oid(12, 2))),
		with(3, 1, 1, nil),
	}
	return l
}

// farOff are ids that are none, and such as no op has.
func farOff() []api.Id {
	return []api.Id{
		oid(99, 99), oid(api.MaxNum, api.MaxActor), oid(api.MaxNum+1, 1), oid(2, 100), oid(0, 1), oid(1, 0), oid(2, 0), oid(0, 99),
		oid(-1, -1), oid(-2, 1), oid(2, -1), oid(math.MaxInt, math.MaxInt), oid(math.MinInt, math.MinInt), oid(math.MaxInt, 1), oid(1, math.MinInt),
	}
}

// A1: ErrNone: an obj that is none; ErrKind: a list.
func TestNoMap(t *testing.T) {
	l := varied()
	wantText(t, "varied", l, `{"k":8,"l":[5],"m":{"k":true,"other":["t"]}}`)
	kinds := map[api.Id]int{root: api.Map, oid(7, 1): api.Map, oid(12, 2): api.Map, oid(1, 1): api.List, oid(8, 1): api.List, oid(13, 2): api.List}
	objs := append(farOff(), root)
	for num := 1; num <= 16; num++ {
		for actor := 1; actor <= 4; actor++ {
			objs = append(objs, oid(num, actor))
		}
	}
	for _, obj := range objs {
		for _, key := range []string{"", "x", "longer than a key may be"} {
			switch kinds[obj] {
			case api.Map:
				wantWho(t, "a map", l, obj, key)
			case api.List:
				wantNobody(t, "a list", l, obj, key, api.ErrKind)
			default:
				wantNobody(t, "no object", l, obj, key, api.ErrNone)
			}
		}
	}
	wantWho(t, "a map", l, oid(7, 1), "k", ref(2, 1))
	wantWho(t, "a map", l, oid(7, 1), "other", ref(1, 2))
	wantWho(t, "a map that is gone", l, oid(12, 2), "bare", ref(2, 1))
	// A map, or a list, that only later changes make is not there yet.
	wantNobody(t, "not yet", l[:1], oid(7, 1), "k", api.ErrNone)
	wantNobody(t, "not yet", l[:1], oid(8, 1), "k", api.ErrNone)
	wantNotMade(t, "not yet", l[:1], oid(4, 1), api.ErrNone)
	wantMade(t, "now", l[:2], oid(4, 1), ref(1, 2))
}

// fault is a change that is refused behind varied.
type fault struct {
	what string
	c    api.Change
	want api.Errno
}

func faults(l []api.Change) []fault {
	a := put(root, "a", number(1))
	start, hangs := l[0], l[2]
	start.Start++
	hangs.Deps = refs(1, 1)
	return []fault{
		{"just the first one", l[0], api.ErrClash},
		{"just the last one", l[len(l)-1], api.ErrClash},
		{"another one with its Actor and Seq", start, api.ErrClash},
		{"another one that hangs on others", hangs, api.ErrClash},
		{"another one without ops", with(3, 1, 2, nil), api.ErrClash},
		{"nothing but noughts", api.Change{}, api.ErrState},
		{"an actor too high", with(100, 1, 1, nil), api.ErrState},
		{"numbers far off", with(math.MinInt, math.MaxInt, math.MinInt, refs(math.MinInt, math.MaxInt), a), api.ErrState},
		{"Deps that do not rise", with(4, 1, 100, refs(2, 1, 1, 1), a), api.ErrState},
		{"too many ops", with(4, 1, 100, nil, slices.Repeat([]api.Op{a}, api.MaxOps+1)...), api.ErrState},
		{"ops above MaxNum", with(4, 1, api.MaxNum, nil, a, a), api.ErrState},
		{"a key too long", with(4, 1, 100, nil, put(root, strings.Repeat("k", api.MaxKey+1), number(1))), api.ErrState},
		{"a wrong one with an Actor and Seq that are there", with(1, 1, 1, refs(1, 0)), api.ErrState},
		{"it waits", with(4, 1, 100, refs(5, 1), a), api.ErrState},
		{"it waits for itself", with(4, 1, 100, refs(4, 1), a), api.ErrState},
		{"its actor's first is not there", with(4, 2, 100, nil), api.ErrState},
		{"its Start is not above all", with(4, 1, 3, refs(1, 1), a), api.ErrState},
		{"it does not hang on the map", with(4, 1, 100, refs(1, 1), put(oid(7, 1), "a", number(1))), api.ErrState},
		{"a key of a list", with(4, 1, 100, refs(1, 1), put(oid(1, 1), "a", number(1))), api.ErrState},
		{"an Inc of no Count", with(4, 1, 100, nil, a, inc(root, "a", 1, oid(100, 4))), api.ErrState},
	}
}

// and gives changes with one more.
func and(l []api.Change, c api.Change) []api.Change { return append(slices.Clone(l), c) }

// A1: chapter 7's errors of the changes, ahead of all others, and the first one that is wrong.
func TestNoBook(t *testing.T) {
	l := varied()
	objs := []api.Id{root, oid(7, 1), oid(1, 1), oid(12, 2), oid(2, 1), oid(99, 99), oid(-1, 0)}
	for _, f := range faults(l) {
		for _, obj := range objs {
			for _, key := range []string{"k", "", "longer than a key may be"} {
				wantTold(t, f.what, and(l, f.c), obj, obj, key, f.want)
			}
		}
		for _, n := range []api.Id{oid(3, 1), oid(14, 2), oid(100, 4), root} {
			wantTold(t, f.what, and(l, f.c), root, n, "k", f.want)
		}
		for _, g := range faults(l) {
			wantTold(t, f.what+", then "+g.what, append(and(l, f.c), g.c), root, oid(1, 1), "k", f.want)
		}
	}
}

// A1: a change ahead of what it hangs on, or without it.
func TestOrder(t *testing.T) {
	l := varied()
	wantTold(t, "the second one ahead", []api.Change{l[1], l[0], l[2]}, root, oid(1, 1), "k", api.ErrState)
	wantTold(t, "the third one ahead", []api.Change{l[0], l[2], l[1]}, root, oid(1, 1), "k", api.ErrState)
	wantTold(t, "without the first one", l[1:], root, oid(4, 1), "k", api.ErrState)
	wantTold(t, "backwards, and one of them again", []api.Change{l[1], l[0], l[0]}, root, oid(1, 1), "k", api.ErrState)
	wantTold(t, "one again, then backwards", []api.Change{l[0], l[0], l[2], l[1]}, root, oid(1, 1), "k", api.ErrClash)
	// The one without ops may stand anywhere.
	for at := range 4 {
		mixed := slices.Insert(slices.Clone(l[:3]), at, l[3])
		wantShares(t, "anywhere", mixed, Share{1, 2, 9, 6}, Share{2, 1, 5, 2}, Share{3, 1, 0, 0})
	}
}

// A1: more changes than a Book takes.
func TestTooManyChanges(t *testing.T) {
	var l []api.Change
	for seq := 1; seq <= api.MaxChanges; seq++ {
		c := with(1, seq, seq, nil, put(root, "k", number(seq)))
		if seq > 1 {
			c.Deps, c.Ops[0].Preds = refs(1, seq-1), []api.Id{oid(seq-1, 1)}
		}
		l = append(l, c)
	}
	wantShares(t, "as many as may be", l, Share{1, api.MaxChanges, api.MaxChanges, 1})
	wantWho(t, "as many as may be", l, root, "k", ref(1, api.MaxChanges))
	wantMade(t, "as many as may be", l, oid(api.MaxChanges, 1), ref(1, api.MaxChanges))
	wantTold(t, "one too many", and(l, with(2, 1, 1, nil)), root, oid(1, 1), "k", api.ErrState)
	wantTold(t, "the first one again", and(l, l[0]), root, oid(1, 1), "k", api.ErrClash)
}

// deepCopy shares no list with l.
func deepCopy(l []api.Change) (out []api.Change) {
	for _, c := range l {
		c.Deps, c.Ops = slices.Clone(c.Deps), slices.Clone(c.Ops)
		for i := range c.Ops {
			c.Ops[i].Preds = slices.Clone(c.Ops[i].Preds)
		}
		out = append(out, c)
	}
	return out
}

// wantVaried asks all three calls of varied.
func wantVaried(t *testing.T, what string, l []api.Change) {
	t.Helper()
	wantWho(t, what, l, root, "k", ref(1, 2))
	wantMade(t, what, l, oid(10, 2), ref(2, 1))
	wantShares(t, what, l, Share{1, 2, 9, 6}, Share{2, 1, 5, 2}, Share{3, 1, 0, 0})
}

// A1: changes that are handed in are not changed, nor what stands behind them, and not kept.
func TestNotChanged(t *testing.T) {
	l := varied()
	behind := append(slices.Clone(l), api.Change{Actor: 7})
	want := deepCopy(behind)
	for range 2 {
		wantVaried(t, "varied", behind[:len(l)])
		if !reflect.DeepEqual(behind, want) {
			t.Fatal("what was handed in was changed")
		}
	}
	for i := range l {
		clear(l[i].Ops)
	}
	wantVaried(t, "varied, once more", want[:len(l)])
}

// A1: what comes out is the caller's.
func TestNotShared(t *testing.T) {
	l := varied()
	shares, err := Shares(l)
	must(t, err)
	clear(shares[:cap(shares)])
	who, err := Who(l, root, "k")
	must(t, err)
	clear(who[:cap(who)])
	wantVaried(t, "after answers were cleared", l)
}
