package past

import (
	"fmt"
	"reflect"
	"slices"
	"testing"

	"commonbook/api"
	"commonbook/doc"
	"commonbook/json"
)

// behind is the tree behind heads.
func behind(t testing.TB, l []api.Change, heads []api.Ref) api.Tree {
	t.Helper()
	known, err := At(l, heads)
	must(t, err)
	x, err := Tree(known)
	must(t, err)
	return x
}

// wantDiff asks for patches that, done by Apply, make of the tree behind from that behind to; none, if both are one. Apply itself says ErrFull of a tree on the way.
func wantDiff(t testing.TB, what string, l []api.Change, from, to []api.Ref) []api.Patch {
	t.Helper()
	old, next := behind(t, l, from), behind(t, l, to)
	p, err := Diff(l, from, to)
	if err != nil {
		t.Errorf("%s: Diff from %v to %v: got %v", what, from, to, err)
		return nil
	}
	if alike(old, next) != (len(p) == 0) {
		t.Errorf("%s: Diff from %v to %v: got %d patches, of %.500v and %.500v", what, from, to, len(p), old, next)
	}
	got, err := json.Apply(old, p)
	if err != nil || !alike(got, next) {
		t.Errorf("%s: Diff from %v to %v: got %.1500v, which make %v, %.500v of %.500v, want %.500v", what, from, to, p, err, got, old, next)
	}
	wantPlain(t, what, p)
	return p
}

// wantPlain asks that no patch says what its kind has no use for.
func wantPlain(t testing.TB, what string, l []api.Patch) {
	t.Helper()
	for _, p := range l {
		if p.Kind == api.PatchGone && p.Value != (api.Value{}) {
			t.Errorf("%s: a Value of what is gone: %v", what, p)
		}
	}
}

// wantPairs asks for Diff between any two of trees, and of nothing: there and back.
func wantPairs(t *testing.T, trees ...api.Tree) {
	t.Helper()
	l, heads := apart(trees...)
	trees, heads = append(trees, mapOf("")), append(heads, nil)
	for i := range heads {
		if got := behind(t, l, heads[i]); !alike(got, trees[i]) {
			t.Fatalf("tree %d: got %.500v, want %.500v", i, got, trees[i])
		}
		for j := range heads {
			wantDiff(t, fmt.Sprint("trees ", i, " and ", j), l, heads[i], heads[j])
		}
	}
}

// P1: between any two of several heads, there and back; of the same heads twice there is none.
func TestDiffHeads(t *testing.T) {
	l := forked(t)
	for _, from := range thens() {
		for _, to := range thens() {
			p := wantDiff(t, from.what+" to "+to.what, l, from.heads, to.heads)
			if (from.text == to.text) != (len(p) == 0) {
				t.Errorf("%s to %s: got %v", from.what, to.what, p)
			}
		}
	}
}

// P1: from nothing to all, and from all to nothing: what the patches make, by its text.
func TestDiffAll(t *testing.T) {
	l := forked(t)
	all := refs(1, 3, 3, 1)
	p, err := Diff(l, nil, all)
	must(t, err)
	x, err := json.Apply(mapOf(""), p)
	must(t, err)
	if got := printed(t, x); got != `{"k":"x","l":[4,5,6],"m":{}}` {
		t.Errorf("from nothing to all: got %s", got)
	}
	p, err = Diff(l, all, nil)
	must(t, err)
	x, err = json.Apply(x, p)
	must(t, err)
	if got := printed(t, x); got != `{}` {
		t.Errorf("from all to nothing: got %s", got)
	}
}

// edit is what a hand does to a book of {"k":1,"l":[1,[2],{"a":3},4],"m":{"a":1,"b":{"c":[5]}}}.
type edit struct {
	what string
	do   func(d *doc.Doc, o objects) error
	want string
}

type objects struct{ l, inner, elem, m, b, c api.Id }

func edited(t *testing.T) (*doc.Doc, objects) {
	d := hand(t, 1)
	must(t, d.Put(root, "k", number(1)))
	var o objects
	o.l = made(t)(d.Make(root, "l", api.List))
	must(t, d.Insert(o.l, 0, number(1)))
	o.inner = made(t)(d.InsertNew(o.l, 1, api.List))
	must(t, d.Insert(o.inner, 0, number(2)))
	o.elem = made(t)(d.InsertNew(o.l, 2, api.Map))
	must(t, d.Put(o.elem, "a", number(3)))
	must(t, d.Insert(o.l, 3, number(4)))
	o.m = made(t)(d.Make(root, "m", api.Map))
	must(t, d.Put(o.m, "a", number(1)))
	o.b = made(t)(d.Make(o.m, "b", api.Map))
	o.c = made(t)(d.Make(o.b, "c", api.List))
	must(t, d.Insert(o.c, 0, number(5)))
	commit(t, d)
	return d, o
}

func edits() []edit {
	only := func(_ api.Id, err error) error { return err }
	return []edit{
		{"nothing that is seen", func(d *doc.Doc, o objects) error { return d.Put(root, "k", number(1)) }, `{"k":1,"l":[1,[2],{"a":3},4],"m":{"a":1,"b":{"c":[5]}}}`},
		{"a key is new, ahead", func(d *doc.Doc, o objects) error { return d.Put(root, "a", number(0)) }, `{"a":0,"k":1,"l":[1,[2],{"a":3},4],"m":{"a":1,"b":{"c":[5]}}}`},
		{"a key is new, between", func(d *doc.Doc, o objects) error { return d.Put(root, "kk", text("")) }, `{"k":1,"kk":"","l":[1,[2],{"a":3},4],"m":{"a":1,"b":{"c":[5]}}}`},
		{"a key is new, behind", func(d *doc.Doc, o objects) error { return only(d.Make(root, "z", api.List)) }, `{"k":1,"l":[1,[2],{"a":3},4],"m":{"a":1,"b":{"c":[5]}},"z":[]}`},
		{"a key is gone", func(d *doc.Doc, o objects) error { return d.Del(root, "k") }, `{"l":[1,[2],{"a":3},4],"m":{"a":1,"b":{"c":[5]}}}`},
		{"a key with much in it is gone", func(d *doc.Doc, o objects) error { return d.Del(root, "l") }, `{"k":1,"m":{"a":1,"b":{"c":[5]}}}`},
		{"a key has another value", func(d *doc.Doc, o objects) error { return d.Put(root, "k", number(2)) }, `{"k":2,"l":[1,[2],{"a":3},4],"m":{"a":1,"b":{"c":[5]}}}`},
		{"a key has a value of another kind", func(d *doc.Doc, o objects) error { return d.Put(root, "k", truth(1)) }, `{"k":true,"l":[1,[2],{"a":3},4],"m":{"a":1,"b":{"c":[5]}}}`},
		{"a map in place of a list", func(d *doc.Doc, o objects) error { return only(d.Make(root, "l", api.Map)) }, `{"k":1,"l":{},"m":{"a":1,"b":{"c":[5]}}}`},
		{"a list in place of a map", func(d *doc.Doc, o objects) error { return only(d.Make(root, "m", api.List)) }, `{"k":1,"l":[1,[2],{"a":3},4],"m":[]}`},
		{"another map in place of a map", func(d *doc.Doc, o objects) error { return only(d.Make(root, "m", api.Map)) }, `{"k":1,"l":[1,[2],{"a":3},4],"m":{}}`},
		{"a plain value in place of a list", func(d *doc.Doc, o objects) error { return d.Put(root, "l", api.Value{}) }, `{"k":1,"l":null,"m":{"a":1,"b":{"c":[5]}}}`},
		{"a plain value in place of a map", func(d *doc.Doc, o objects) error { return d.Put(root, "m", text("m")) }, `{"k":1,"l":[1,[2],{"a":3},4],"m":"m"}`},
		{"a map in place of a plain value", func(d *doc.Doc, o objects) error { return only(d.Make(root, "k", api.Map)) }, `{"k":{},"l":[1,[2],{"a":3},4],"m":{"a":1,"b":{"c":[5]}}}`},
		{"a list in place of a plain value", func(d *doc.Doc, o objects) error { return only(d.Make(root, "k", api.List)) }, `{"k":[],"l":[1,[2],{"a":3},4],"m":{"a":1,"b":{"c":[5]}}}`},
		{"an element came in ahead", func(d *doc.Doc, o objects) error { return d.Insert(o.l, 0, number(9)) }, `{"k":1,"l":[9,1,[2],{"a":3},4],"m":{"a":1,"b":{"c":[5]}}}`},
		{"an element came in between", func(d *doc.Doc, o objects) error { return d.Insert(o.l, 2, number(9)) }, `{"k":1,"l":[1,[2],9,{"a":3},4],"m":{"a":1,"b":{"c":[5]}}}`},
		{"an element came in behind", func(d *doc.Doc, o objects) error { return d.Insert(o.l, 4, number(9)) }, `{"k":1,"l":[1,[2],{"a":3},4,9],"m":{"a":1,"b":{"c":[5]}}}`},
		{"a list came in between", func(d *doc.Doc, o objects) error { return only(d.InsertNew(o.l, 1, api.List)) }, `{"k":1,"l":[1,[],[2],{"a":3},4],"m":{"a":1,"b":{"c":[5]}}}`},
		{"the first element is gone", func(d *doc.Doc, o objects) error { return d.Remove(o.l, 0) }, `{"k":1,"l":[[2],{"a":3},4],"m":{"a":1,"b":{"c":[5]}}}`},
		{"an element between is gone", func(d *doc.Doc, o objects) error { return d.Remove(o.l, 1) }, `{"k":1,"l":[1,{"a":3},4],"m":{"a":1,"b":{"c":[5]}}}`},
		{"the last element is gone", func(d *doc.Doc, o objects) error { return d.Remove(o.l, 3) }, `{"k":1,"l":[1,[2],{"a":3}],"m":{"a":1,"b":{"c":[5]}}}`},
		{"an element has another value", func(d *doc.Doc, o objects) error { return d.Set(o.l, 0, text("one")) }, `{"k":1,"l":["one",[2],{"a":3},4],"m":{"a":1,"b":{"c":[5]}}}`},
		{"a plain value in place of a list, an element", func(d *doc.Doc, o objects) error { return d.Set(o.l, 1, number(2)) }, `{"k":1,"l":[1,2,{"a":3},4],"m":{"a":1,"b":{"c":[5]}}}`},
		{"deep within, in a list of a list", func(d *doc.Doc, o objects) error { return d.Insert(o.inner, 1, number(9)) }, `{"k":1,"l":[1,[2,9],{"a":3},4],"m":{"a":1,"b":{"c":[5]}}}`},
		{"deep within, in a map of a list", func(d *doc.Doc, o objects) error { return d.Put(o.elem, "b", number(9)) }, `{"k":1,"l":[1,[2],{"a":3,"b":9},4],"m":{"a":1,"b":{"c":[5]}}}`},
		{"deep within, a key of a map of a list is gone", func(d *doc.Doc, o objects) error { return d.Del(o.elem, "a") }, `{"k":1,"l":[1,[2],{},4],"m":{"a":1,"b":{"c":[5]}}}`},
		{"deep within, in a list of maps", func(d *doc.Doc, o objects) error { return d.Set(o.c, 0, number(6)) }, `{"k":1,"l":[1,[2],{"a":3},4],"m":{"a":1,"b":{"c":[6]}}}`},
		{"deep within, a list is gone", func(d *doc.Doc, o objects) error { return d.Del(o.b, "c") }, `{"k":1,"l":[1,[2],{"a":3},4],"m":{"a":1,"b":{}}}`},
	}
}

// P1: what a hand did, there and back.
func TestDiffEdits(t *testing.T) {
	base, o := edited(t)
	first := base.Heads()
	for i, e := range edits() {
		d := fork(t, base, i+2)
		must(t, e.do(d, o))
		commit(t, d)
		wantText(t, e.what, d.All(), d.Heads(), e.want)
		wantDiff(t, e.what, d.All(), first, d.Heads())
		wantDiff(t, e.what+", back", d.All(), d.Heads(), first)
	}
}

// P1: from what one hand did to what another did, and to what both did.
func TestDiffEditsApart(t *testing.T) {
	base, o := edited(t)
	var hands []*doc.Doc
	for i, e := range edits() {
		d := fork(t, base, i+2)
		must(t, e.do(d, o))
		commit(t, d)
		hands = append(hands, d)
	}
	for _, d := range hands {
		merge(t, base, d)
	}
	l := base.All()
	for i := range hands {
		for j := range hands {
			a, b := refs(i+2, 1), refs(j+2, 1)
			what := edits()[i].what + "; " + edits()[j].what
			wantDiff(t, what, l, a, b)
			wantDiff(t, what, l, a, slices.Concat(b, a))
		}
	}
	wantDiff(t, "all edits", l, refs(1, 1), base.Heads())
	wantDiff(t, "all edits, back", l, base.Heads(), refs(1, 1))
}

// P1: trees that are one, though not by the same changes, have no patches between them.
func TestDiffNone(t *testing.T) {
	x := tree(t, `{"a":[1,{"b":[]},"t"],"c":null}`)
	l, heads := apart(x, x, tree(t, `{"a":[1,{"b":[]},"t"],"c":false}`))
	for i := range 2 {
		for j := range 2 {
			p, err := Diff(l, heads[i], heads[j])
			if err != nil || len(p) != 0 {
				t.Errorf("one tree: got %v, %v", p, err)
			}
		}
		if p, err := Diff(l, heads[i], heads[2]); err != nil || len(p) == 0 {
			t.Errorf("two trees: got %v, %v", p, err)
		}
	}
	d := hand(t, 1)
	must(t, d.Put(root, "a", count(5)))
	first := commit(t, d)
	must(t, d.Put(root, "a", number(5)))
	second := commit(t, d)
	if p, err := Diff(d.All(), []api.Ref{first}, []api.Ref{second}); err != nil || len(p) != 0 {
		t.Errorf("a Count and a Number are one in a tree: got %v, %v", p, err)
	}
}

// P1: between any two of many small trees.
func TestDiffPairs(t *testing.T) {
	var trees []api.Tree
	for _, s := range []string{
		`{"a":null}`, `{"a":false}`, `{"a":0}`, `{"a":""}`, `{"a":{}}`, `{"a":[]}`, `{"b":1}`, `{"a":1,"b":1}`, `{"a":1,"b":1,"c":1}`, `{"a":1,"c":1}`,
		`{"a":[1]}`, `{"a":[1,1]}`, `{"a":[1,1,1]}`, `{"a":[1,2,3]}`, `{"a":[3,2,1]}`, `{"a":[2,3]}`, `{"a":[0,1,2,3]}`, `{"a":[1,9,2,3]}`, `{"a":[1,2,3,4]}`, `{"a":[1,"x",3]}`,
		`{"a":[9,1,9,2,9,3,9]}`, `{"a":[2,9]}`, `{"a":[3,1,2]}`, `{"a":[[1],[2],[3]]}`, `{"a":[[1],[2,2],[3]]}`, `{"a":[[],[[1],[2],[3]]]}`, `{"a":[[[[1]]]]}`, `{"a":[[[[1,2]]],0]}`,
		`{"a":[0,[[[2]]]]}`, `{"a":[{"x":1},{"x":2}]}`, `{"a":[{"x":2},{"x":1,"y":[]}]}`, `{"a":[{"y":1}]}`, `{"a":{"x":[1,2]},"b":{"x":[2,1]}}`, `{"a":{"x":[2,1]},"b":{"x":[1,2]}}`,
		`{"a":{"a":{"a":{"a":1}}}}`, `{"a":{"a":{"a":{"b":1}}}}`, `{"a":{"a":{"a":[{"a":1}]}}}`, `{"a":{"a":[]}}`, `{"a":{"0":1}}`, `{"a":["0",1]}`,
	} {
		trees = append(trees, tree(t, s))
	}
	wantPairs(t, trees...)
}

// twoLists has the lists a and b, and MaxList trees in all, so many of them in a.
func twoLists(inA int, v api.Value) api.Tree {
	return mapOf("a b", list(slices.Repeat([]api.Tree{leaf(v)}, inA)...), list(slices.Repeat([]api.Tree{leaf(v)}, 397-inA)...))
}

// twoDeep has two lists in lists, and MaxList trees in all, so many of them in the first.
func twoDeep(inFirst int) api.Tree {
	kids := func(many int) []api.Tree { return slices.Repeat([]api.Tree{list()}, many) }
	return mapOf("m", mapOf("l", list(list(kids(inFirst)...), list(kids(395-inFirst)...))))
}

// P1: trees of MaxList trees, which differ: no tree on the way has more.
func TestDiffFull(t *testing.T) {
	mixed := mapOf("a", list())
	for i := range 398 {
		mixed.Kids[0].Kids = append(mixed.Kids[0].Kids, leaf(number(i)))
	}
	turned := mapOf("a", list(slices.Clone(mixed.Kids[0].Kids)...))
	slices.Reverse(turned.Kids[0].Kids)
	moved := mapOf("a", list(slices.Concat(mixed.Kids[0].Kids[1:], mixed.Kids[0].Kids[:1])...))
	half := mapOf("a", list())
	for i := range 199 {
		half.Kids[0].Kids = append(half.Kids[0].Kids, list(leaf(number(i))))
	}
	sets := [][]api.Tree{
		{wide(400, number(1)), wide(400, number(2)), deep(400), keyed(400, "k"), keyed(400, "a"), keyed(400, "z")},
		{twoLists(0, number(1)), twoLists(397, number(1)), twoLists(200, number(2)), twoLists(100, api.Value{}), wide(399, number(1))},
		{twoDeep(0), twoDeep(395), twoDeep(1), twoDeep(200), deep(400)},
		{mixed, turned, moved, half, mapOf("b", list(mixed.Kids[0].Kids...))},
	}
	for i, trees := range sets {
		for j, x := range trees {
			if many := size(x); many > api.MaxList || many < api.MaxList-1 {
				t.Fatalf("tree %d, %d has %d trees", i, j, many)
			}
		}
		wantPairs(t, trees...)
	}
}

// P1: ErrNone of from, then of to, both ahead of ErrFull; ErrFull of either tree, also where both are one.
func TestDiffErrors(t *testing.T) {
	l, heads := apart(wide(401, number(1)), wide(401, number(1)), wide(400, number(1)))
	full, fullToo, fine := heads[0], heads[1], heads[2]
	none := refs(9, 9)
	for _, c := range []struct {
		what     string
		from, to []api.Ref
		want     api.Errno
	}{
		{"from is not there", none, fine, api.ErrNone},
		{"to is not there", fine, none, api.ErrNone},
		{"neither is there", none, refs(8, 8), api.ErrNone},
		{"from is not there, to is full", none, full, api.ErrNone},
		{"from is full, to is not there", full, none, api.ErrNone},
		{"from is full", full, fine, api.ErrFull},
		{"to is full", fine, full, api.ErrFull},
		{"both are full", full, fullToo, api.ErrFull},
		{"both are full, and one", full, full, api.ErrFull},
		{"from is full, to is nothing", full, nil, api.ErrFull},
		{"from is nothing, to is full", nil, full, api.ErrFull},
		{"one of from is not there", slices.Concat(fine, none), fine, api.ErrNone},
		{"one of to is not there", fine, slices.Concat(none, fine), api.ErrNone},
	} {
		wantNoDiff(t, c.what, l, c.from, c.to, c.want)
	}
	for _, f := range faults(l) {
		bad := append(l[:len(l):len(l)], f.c)
		wantNoDiff(t, f.what, bad, none, none, f.want)
		wantNoDiff(t, f.what, bad, full, full, f.want)
		wantNoDiff(t, f.what, bad, none, full, f.want)
	}
}

// P1, P2: what Diff answers hangs on its arguments alone.
func TestDiffAgain(t *testing.T) {
	l := forked(t)
	first, err := Diff(l, refs(1, 3), refs(3, 1))
	must(t, err)
	for _, other := range thens() {
		_, _ = Diff(l, other.heads, refs(1, 1))
		_, _ = Diff(l, refs(9, 9), other.heads)
		again, err := Diff(l, refs(1, 3), refs(3, 1))
		if err != nil || !reflect.DeepEqual(again, first) {
			t.Errorf("again: got %v, %v, want %v", again, err, first)
		}
	}
}

// Which patches there are is not promised; but of what stayed as it was there are none, and what is within a place that stayed is not said again.
func TestDiffFew(t *testing.T) {
	row := func(from, to int) (kids []api.Tree) {
		for i := from; i < to; i++ {
			kids = append(kids, leaf(number(i)))
		}
		return kids
	}
	many := mapOf("a", list(row(0, 390)...))
	bits := slices.Concat(row(-1, 100), row(101, 200), row(500, 501), row(200, 300), row(600, 601), row(301, 391))
	for _, c := range []struct {
		old, next api.Tree
		want      int
	}{
		{tree(t, `{"a":1,"b":1,"c":1}`), tree(t, `{"b":1,"c":2}`), 2},
		{tree(t, `{"b":1,"c":1}`), tree(t, `{"a":1,"b":1,"c":1,"d":1}`), 2},
		{tree(t, `{"a":[1,2]}`), tree(t, `{"a":[2]}`), 1},
		{tree(t, `{"a":[2]}`), tree(t, `{"a":[1,2]}`), 1},
		{tree(t, `{"a":[1,2,3]}`), tree(t, `{"a":[1,9,3]}`), 1},
		{tree(t, `{"a":[[1],[2]]}`), tree(t, `{"a":[[2]]}`), 1},
		{tree(t, `{"a":[[2]]}`), tree(t, `{"a":[[1],[2]]}`), 2},
		{tree(t, `{"a":[{"a":1},{"b":1}]}`), tree(t, `{"a":[{"b":1}]}`), 1},
		{tree(t, `{"a":[{"b":[1,2,3]},5]}`), tree(t, `{"a":[{"b":[1,3]},5,6]}`), 2},
		{many, mapOf("a", list(bits...)), 5},
		{many, mapOf("a", list(row(10, 390)...)), 10},
		{many, mapOf("a", list(row(-5, 390)...)), 5},
	} {
		l, heads := apart(c.old, c.next)
		if p := wantDiff(t, "few", l, heads[0], heads[1]); len(p) != c.want {
			t.Errorf("from %.200v to %.200v: got %d patches, want %d: %.500v", c.old, c.next, len(p), c.want, p)
		}
	}
}
