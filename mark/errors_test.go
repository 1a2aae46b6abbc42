package mark

import (
	"math"
	"reflect"
	"slices"
	"testing"

	"commonbook/api"
)

// wantTold asks all three calls for an error with which nothing else is told.
func wantTold(t testing.TB, what string, l []api.Change, obj, cursor api.Id, at int, want api.Errno) {
	t.Helper()
	wantNoCursor(t, what, l, obj, at, want)
	wantNoWhere(t, what, l, obj, cursor, want)
	for _, other := range []api.Id{cursor, root, elem(0), oid(99, 99)} {
		wantNoSpan(t, what, l, obj, cursor, other, want)
		wantNoSpan(t, what, l, obj, other, cursor, want)
	}
}

// varied has ids of all sorts. Of list 1@1 elements are 2@1, 3@1 and 4@1, which is gone.
func varied(t testing.TB) []api.Change {
	t.Helper()
	d := listed(t, number(0), count(1), number(2))
	must(t, d.Remove(list, 2))                      // 5@1
	must(t, d.Set(list, 0, text("set")))            // 6@1
	must(t, d.AddAt(list, 1, 3))                    // 7@1
	must(t, d.Put(root, "k", count(7)))             // 8@1
	must(t, d.Add(root, "k", 1))                    // 9@1
	m := made(t)(d.Make(root, "m", api.Map))        // 10@1
	other := made(t)(d.Make(m, "other", api.List))  // 11@1
	must(t, d.Insert(other, 0, number(5)))          // 12@1
	must(t, d.Insert(other, 1, number(6)))          // 13@1
	must(t, d.Remove(other, 1))                     // 14@1
	must(t, d.Put(root, "gone", truth(1)))          // 15@1
	must(t, d.Del(root, "gone"))                    // 16@1
	in := made(t)(d.InsertNew(other, 0, api.List))  // 17@1
	made(t)(d.InsertNew(in, 0, api.Map))            // 18@1
	bare := made(t)(d.Make(root, "bare", api.List)) // 19@1
	must(t, d.Del(root, "bare"))                    // 20@1
	l := all(t, d)
	wantRow(t, "varied", l, list, []thing{has(elem(0), text("set")), has(elem(1), count(4)), gone(elem(2))})
	wantRow(t, "varied", l, bare, nil)
	return l
}

// farOff are ids that are none, and such as no op has.
func farOff() []api.Id {
	return []api.Id{
		oid(21, 1), oid(1, 2), oid(2, 2), oid(99, 99), oid(api.MaxNum, api.MaxActor), oid(api.MaxNum+1, 1), oid(2, 100), oid(0, 1), oid(1, 0), oid(2, 0),
		oid(-1, -1), oid(-2, 1), oid(2, -1), oid(math.MaxInt, math.MaxInt), oid(math.MinInt, math.MinInt), oid(math.MaxInt, 1), oid(1, math.MinInt),
	}
}

// M1: ErrNone: an object that is no list, or is not there.
func TestNoList(t *testing.T) {
	l := varied(t)
	none := append(farOff(), root)
	for _, num := range []int{2, 3, 4, 5, 6, 7, 8, 9, 10, 12, 13, 14, 15, 16, 18, 20} {
		none = append(none, oid(num, 1))
	}
	for _, obj := range none {
		for _, cursor := range []api.Id{root, elem(0), elem(2), oid(12, 1), obj} {
			for _, at := range []int{0, 1, -1, 99} {
				wantTold(t, "no list", l, obj, cursor, at, api.ErrNone)
			}
		}
	}
	// A list that only later changes make is not there yet.
	for many := range 2 {
		wantTold(t, "not yet", l[:many], oid(11, 1), root, 0, api.ErrNone)
	}
}

// M1: ErrNone: an id that is no element of that list.
func TestNoElement(t *testing.T) {
	l := varied(t)
	for obj, elements := range map[api.Id][]int{list: {2, 3, 4}, oid(11, 1): {12, 13, 17}, oid(17, 1): {18}, oid(19, 1): nil} {
		none := farOff()
		for num := 1; num <= 20; num++ {
			if slices.Contains(elements, num) {
				_, err := Where(l, obj, oid(num, 1))
				must(t, err)
				continue
			}
			none = append(none, oid(num, 1))
		}
		for _, a := range none {
			wantNoWhere(t, "no element", l, obj, a, api.ErrNone)
			wantNoSpan(t, "no element from", l, obj, a, root, api.ErrNone)
			wantNoSpan(t, "no element to", l, obj, root, a, api.ErrNone)
			wantNoSpan(t, "no element at both ends", l, obj, a, a, api.ErrNone)
			for _, num := range elements {
				wantNoSpan(t, "no element from", l, obj, a, oid(num, 1), api.ErrNone)
				wantNoSpan(t, "no element to", l, obj, oid(num, 1), a, api.ErrNone)
			}
		}
	}
	// An element that only later changes make is not there yet.
	wantNoWhere(t, "not yet", l[:1], list, oid(5, 1), api.ErrNone)
	wantWhere(t, "no longer", l[:1], list, elem(2), 2)
}

// M1: ErrRange: an index below 0, or above how many have values, however many elements there are.
func TestRange(t *testing.T) {
	l, _ := taken(t, 6, 0, 2, 5)
	for _, at := range []int{-1, -2, -3, 4, 5, 6, 7, math.MinInt, math.MaxInt, math.MinInt + 1, math.MaxInt - 1, 1 << 32, -1 << 32} {
		wantNoCursor(t, "three are left", l, list, at, api.ErrRange)
	}
	for at, want := range []api.Id{elem(1), elem(3), elem(4), root} {
		wantCursor(t, "three are left", l, list, at, want)
	}
}

// fault is a change that is refused behind varied.
type fault struct {
	what string
	c    api.Change
	want api.Errno
}

func faults(l []api.Change) []fault {
	put := api.Op{Kind: api.Put, Key: "a"}
	other := l[0]
	other.Start++
	fits := func(deps []api.Ref, ops ...api.Op) api.Change {
		return api.Change{Actor: 4, Seq: 1, Start: 100, Deps: deps, Ops: ops}
	}
	return []fault{
		{"just one that is there", l[0], api.ErrClash},
		{"just the last one", l[len(l)-1], api.ErrClash},
		{"another one with its Actor and Seq", other, api.ErrClash},
		{"nothing but noughts", api.Change{}, api.ErrState},
		{"no actor", api.Change{Actor: 100, Seq: 1, Start: 1}, api.ErrState},
		{"numbers far off", api.Change{Actor: math.MinInt, Seq: math.MaxInt, Start: math.MinInt}, api.ErrState},
		{"Deps that do not rise", fits(refs(2, 1, 1, 1)), api.ErrState},
		{"too many ops", fits(nil, slices.Repeat([]api.Op{put}, 41)...), api.ErrState},
		{"an op of no place", fits(nil, api.Op{Kind: api.Put}), api.ErrState},
		{"it waits", fits(refs(5, 1), put), api.ErrState},
		{"it waits for itself", fits(refs(4, 1), put), api.ErrState},
		{"its actor's first is not there", api.Change{Actor: 4, Seq: 2, Start: 100}, api.ErrState},
		{"its Start is not above all", api.Change{Actor: 4, Seq: 1, Start: 1, Deps: refs(1, 1), Ops: []api.Op{put}}, api.ErrState},
		{"it does not hang on the list", fits(nil, insert(list, root, number(1))), api.ErrState},
		{"a key of a list", fits(refs(1, 1), api.Op{Kind: api.Put, Obj: list, Key: "a"}), api.ErrState},
		{"behind an element of another list", fits(refs(1, 2), insert(list, oid(12, 1), number(1))), api.ErrState},
		{"behind no element", fits(refs(1, 2), insert(list, oid(6, 1), number(1))), api.ErrState},
	}
}

// M1: chapter 7's errors of the changes, ahead of all others.
func TestNoBook(t *testing.T) {
	l := varied(t)
	for _, f := range faults(l) {
		for _, at := range []int{0, 1, 2, 3, -1, 99} {
			wantTold(t, f.what, with(l, f.c), list, elem(0), at, f.want)
		}
		for _, cursor := range []api.Id{root, elem(1), elem(2), list, oid(12, 1), oid(99, 99), oid(-1, 0)} {
			wantTold(t, f.what, with(l, f.c), list, cursor, 0, f.want)
			for _, none := range []api.Id{root, oid(10, 1), oid(99, 99), oid(-1, 0)} {
				wantTold(t, f.what+", and no list", with(l, f.c), none, cursor, -1, f.want)
			}
		}
		for _, g := range faults(l) {
			wantTold(t, f.what+", then "+g.what, append(with(l, f.c), g.c), list, elem(0), 0, f.want)
		}
	}
	wantTold(t, "the second one alone", l[1:], list, elem(0), 0, api.ErrState)
	wantTold(t, "the second one ahead", []api.Change{l[1], l[0]}, list, elem(0), 0, api.ErrState)
}

// M1: more changes than a Book takes.
func TestTooManyChanges(t *testing.T) {
	l := all(t, listed(t, number(0)))
	for len(l) < api.MaxChanges {
		l = append(l, next(l, 1, insert(list, root, number(len(l)))))
	}
	wantWhere(t, "as many as may be", l, list, elem(0), api.MaxChanges-1)
	wantTold(t, "one too many", with(l, next(l, 1)), list, elem(0), 0, api.ErrState)
	wantTold(t, "the first one again", with(l, l[0]), list, elem(0), 0, api.ErrClash)
}

// M1: of no changes there is no list.
func TestNoChanges(t *testing.T) {
	for _, l := range [][]api.Change{nil, {}} {
		for _, obj := range []api.Id{root, list, oid(99, 99)} {
			for _, at := range []int{0, -1, 1} {
				wantTold(t, "no changes", l, obj, root, at, api.ErrNone)
			}
		}
	}
}

// M1: which error is told where several apply: of the list ahead of the index, and of the element.
func TestFirstError(t *testing.T) {
	l := varied(t)
	wantNoCursor(t, "no list, no index", l, oid(99, 99), -1, api.ErrNone)
	wantNoCursor(t, "a map, no index", l, oid(10, 1), 99, api.ErrNone)
	wantNoCursor(t, "the root, no index", l, root, math.MaxInt, api.ErrNone)
	wantNoCursor(t, "a list, no index", l, list, 3, api.ErrRange)
	wantNoWhere(t, "the root, the end", l, root, root, api.ErrNone)
	wantNoSpan(t, "the root, the end", l, root, root, root, api.ErrNone)
	wantNoSpan(t, "an end that is none, behind the end", l, list, root, oid(99, 99), api.ErrNone)
	wantNoSpan(t, "an end that is none, of what is gone", l, list, elem(2), oid(99, 99), api.ErrNone)
}

// deepCopy shares no list with l.
func deepCopy(l []api.Change) (out []api.Change) {
	for _, c := range l {
		c.Deps, c.Ops = slices.Clone(c.Deps), slices.Clone(c.Ops)
		for i := range c.Ops {
			c.Ops[i].Preds = slices.Clone(c.Ops[i].Preds)
		}
		out = append(out, c)
	}
	return out
}

// M1: changes that are handed in are not changed, nor what stands behind them, and not kept.
func TestNotChanged(t *testing.T) {
	l := varied(t)
	behind := append(slices.Clone(l), api.Change{Actor: 7})
	want := deepCopy(behind)
	for range 2 {
		wantRow(t, "varied", behind[:len(l)], list, []thing{has(elem(0), text("set")), has(elem(1), count(4)), gone(elem(2))})
		if !reflect.DeepEqual(behind, want) {
			t.Fatal("what was handed in was changed")
		}
	}
	for i := range l {
		clear(l[i].Ops)
	}
	wantRow(t, "varied, once more", want[:len(l)], list, []thing{has(elem(0), text("set")), has(elem(1), count(4)), gone(elem(2))})
}

// M1: what comes out is the caller's.
func TestNotShared(t *testing.T) {
	l, _ := taken(t, 5, 1)
	first, err := Span(l, list, elem(0), root)
	must(t, err)
	second, err := Span(l, list, elem(0), root)
	must(t, err)
	clear(first[:cap(first)])
	if !slices.Equal(second, numbers(0, 2, 3, 4)) {
		t.Errorf("Span: got %v, after another answer was cleared", second)
	}
	wantSpan(t, "after answers were cleared", l, list, elem(0), root, numbers(0, 2, 3, 4))
	wantCursor(t, "after answers were cleared", l, list, 1, elem(2))
	wantWhere(t, "after answers were cleared", l, list, elem(4), 3)
}
