package mark

import (
	"fmt"
	"slices"
	"testing"

	"commonbook/api"
	"commonbook/doc"
)

// M1: what comes in ahead of a cursor moves it along, what comes in behind does not.
func TestComesIn(t *testing.T) {
	for cursor := range 6 {
		for at := range 6 {
			d := listed(t, numbers(0, 1, 2, 3, 4)...)
			a, err := Cursor(all(t, d), list, cursor)
			must(t, err)
			must(t, d.Insert(list, at, number(9)))
			want := cursor
			// At the index of the cursor it comes in ahead; all comes in ahead of the end.
			if at <= cursor {
				want++
			}
			wantWhere(t, fmt.Sprint("one came in at ", at), all(t, d), list, a, want)
		}
	}
	d := listed(t, number(0), number(1))
	for i := range 10 {
		made(t)(d.InsertNew(list, 1+i, api.Map))
		l := all(t, d)
		wantWhere(t, "ahead of the last", l, list, elem(1), 2+i)
		wantWhere(t, "behind the first", l, list, elem(0), 0)
		wantWhere(t, "the end", l, list, root, 3+i)
	}
}

// M1: what goes ahead of a cursor moves it back, and where it goes itself, it is where the next one is.
func TestGoes(t *testing.T) {
	for cursor := range 6 {
		for at := range 5 {
			d := listed(t, numbers(0, 1, 2, 3, 4)...)
			a, err := Cursor(all(t, d), list, cursor)
			must(t, err)
			must(t, d.Remove(list, at))
			want := cursor
			if at < cursor {
				want--
			}
			wantWhere(t, fmt.Sprint("one went at ", at), all(t, d), list, a, want)
		}
	}
}

// M1: a cursor whose element is gone is moved along, too, and back.
func TestGoneMoves(t *testing.T) {
	for at, want := range []int{3, 3, 3, 2, 2} {
		d := listed(t, numbers(0, 1, 2, 3, 4)...)
		must(t, d.Remove(list, 2))
		wantWhere(t, "gone", all(t, d), list, elem(2), 2)
		must(t, d.Insert(list, at, number(9)))
		wantWhere(t, fmt.Sprint("gone, and one came in at ", at), all(t, d), list, elem(2), want)
	}
	for at, want := range []int{1, 1, 2, 2} {
		d := listed(t, numbers(0, 1, 2, 3, 4)...)
		must(t, d.Remove(list, 2))
		must(t, d.Remove(list, at))
		wantWhere(t, fmt.Sprint("gone, and one went at ", at), all(t, d), list, elem(2), want)
	}
	// Behind an element that is gone others may still come in: they stand behind its cursor.
	l, row := taken(t, 3, 1)
	l = append(l, next(l, 3, insert(list, elem(1), number(9))))
	row = slices.Insert(row, 2, has(oid(l[len(l)-1].Start, 3), number(9)))
	wantRow(t, "behind what is gone", l, list, row)
	wantWhere(t, "behind what is gone", l, list, elem(1), 1)
	wantSpan(t, "behind what is gone", l, list, elem(1), elem(2), numbers(9))
}

// M1: what is said of a value that stands moves nothing.
func TestSetMovesNothing(t *testing.T) {
	d := listed(t, number(0), count(1), number(2))
	must(t, d.Remove(list, 0))
	must(t, d.Set(list, 1, text("set")))
	must(t, d.AddAt(list, 0, 4))
	must(t, d.Put(root, "k", number(1)))
	other := made(t)(d.Make(root, "other", api.List))
	must(t, d.Insert(other, 0, number(1)))
	l := all(t, d)
	wantRow(t, "set", l, list, []thing{gone(elem(0)), has(elem(1), count(5)), has(elem(2), text("set"))})
}

// M1: a span has what came in between its ends, and nothing else.
func TestSpanMoves(t *testing.T) {
	d := listed(t, numbers(0, 1, 2, 3, 4)...)
	must(t, d.Insert(list, 1, text("at its beginning")))
	wantSpan(t, "at its beginning", all(t, d), list, elem(1), elem(3), numbers(1, 2))
	must(t, d.Insert(list, 3, text("within")))
	wantSpan(t, "within", all(t, d), list, elem(1), elem(3), []api.Value{number(1), text("within"), number(2)})
	must(t, d.Insert(list, 5, text("at its end")))
	wantSpan(t, "at its end", all(t, d), list, elem(1), elem(3), []api.Value{number(1), text("within"), number(2), text("at its end")})
	must(t, d.Remove(list, 2))
	wantSpan(t, "its first one went", all(t, d), list, elem(1), elem(3), []api.Value{text("within"), number(2), text("at its end")})
	must(t, d.Remove(list, 5))
	wantSpan(t, "its end went", all(t, d), list, elem(1), elem(3), []api.Value{text("within"), number(2), text("at its end")})
	wantSpan(t, "from there on", all(t, d), list, elem(3), root, numbers(4))
	for range 3 {
		must(t, d.Remove(list, 2))
	}
	wantSpan(t, "all of it went", all(t, d), list, elem(1), elem(3), nil)
	wantSpan(t, "what is around", all(t, d), list, elem(0), root, []api.Value{number(0), text("at its beginning"), number(4)})
}

// M1: two hands that were merged find the same, from either one's marks.
func TestMerged(t *testing.T) {
	d := listed(t, numbers(0, 1, 2, 3)...)
	e := fork(t, d, 2)
	must(t, d.Insert(list, 1, text("one")))
	must(t, d.Remove(list, 3))
	must(t, e.Insert(list, 1, text("two")))
	must(t, e.Insert(list, 4, text("too")))
	must(t, e.Remove(list, 0))
	ofD, err := Cursor(all(t, d), list, 1)
	must(t, err)
	ofE, err := Cursor(all(t, e), list, 3)
	must(t, err)
	merge(t, d, e)
	merge(t, e, d)
	// 0 and 2 are gone; what came in behind 0 stands by id, falling.
	row := []thing{gone(elem(0)), has(oid(6, 2), text("two")), has(oid(6, 1), text("one")), has(elem(1), number(1)), gone(elem(2)), has(oid(7, 2), text("too")), has(elem(3), number(3))}
	for _, o := range []*doc.Doc{d, e} {
		wantRow(t, "merged", all(t, o), list, row)
		wantWhere(t, "merged: one's mark", all(t, o), list, ofD, 1)
		wantWhere(t, "merged: two's mark", all(t, o), list, ofE, 3)
		wantSpan(t, "merged: from one's mark to two's", all(t, o), list, ofD, ofE, []api.Value{text("one"), number(1)})
	}
	if ofD != oid(6, 1) || ofE != oid(7, 2) {
		t.Errorf("marks: got %v and %v", ofD, ofE)
	}
}

// orders gives all orders of changes in which each stands behind its Deps.
func orders(l, out []api.Change) (found [][]api.Change) {
	if len(l) == 0 {
		return [][]api.Change{out}
	}
	isLeft := func(r api.Ref) bool {
		return slices.ContainsFunc(l, func(c api.Change) bool { return api.Ref{Actor: c.Actor, Seq: c.Seq} == r })
	}
	for i, c := range l {
		if !slices.ContainsFunc(c.Deps, isLeft) {
			found = append(found, orders(slices.Delete(slices.Clone(l), i, i+1), with(out, c))...)
		}
	}
	return found
}

// M1: in whatever order changes come, who has the same finds the same.
func TestAnyOrder(t *testing.T) {
	base := all(t, listed(t, number(0), number(1)))
	l := append(slices.Clone(base),
		next(base, 2, insert(list, elem(0), number(2)), del(list, elem(1), elem(1))),
		next(base, 3, insert(list, elem(0), number(3)), set(list, elem(1), number(33), elem(1))),
		next(base, 4, insert(list, root, number(4)), del(list, elem(0), elem(0))),
	)
	l = append(l, next(l, 5, insert(list, elem(0), number(5))))
	found := orders(l, nil)
	if len(found) != 6 {
		t.Fatalf("%d orders", len(found))
	}
	for _, l := range found {
		wantRow(t, "in any order", l, list, []thing{
			has(oid(4, 4), number(4)), gone(elem(0)), has(oid(6, 5), number(5)), has(oid(4, 3), number(3)), has(oid(4, 2), number(2)), has(elem(1), number(33)),
		})
	}
}
