package past

import (
	"fmt"
	"math"
	"reflect"
	"slices"
	"strings"
	"testing"

	"commonbook/api"
	"commonbook/dag"
	"commonbook/doc"
	"commonbook/json"
	"commonbook/plain"
	"commonbook/state"
)

var root = api.Id{}

// refs of numbers: an actor, a Seq, and so on.
func refs(n ...int) (l []api.Ref) {
	for i := 0; i < len(n); i += 2 {
		l = append(l, api.Ref{Actor: n[i], Seq: n[i+1]})
	}
	return l
}

func refOf(c api.Change) api.Ref { return api.Ref{Actor: c.Actor, Seq: c.Seq} }

func refsOf(l []api.Change) (out []api.Ref) {
	for _, c := range l {
		out = append(out, refOf(c))
	}
	return out
}

func truth(n int) api.Value { return api.Value{Kind: api.Truth, Num: n} }

func number(n int) api.Value { return api.Value{Kind: api.Number, Num: n} }

func count(n int) api.Value { return api.Value{Kind: api.Count, Num: n} }

func text(s string) api.Value { return api.Value{Kind: api.Text, Text: s} }

func leaf(v api.Value) api.Tree { return api.Tree{Value: v} }

func list(kids ...api.Tree) api.Tree {
	return api.Tree{Value: api.Value{Kind: api.List}, Kids: kids}
}

// mapOf has keys, with a blank between, and of each a kid.
func mapOf(keys string, kids ...api.Tree) api.Tree {
	return api.Tree{Value: api.Value{Kind: api.Map}, Keys: strings.Fields(keys), Kids: kids}
}

// alike tells whether trees are, an empty list and nil being the same.
func alike(a, b api.Tree) bool {
	if a.Value != b.Value || len(a.Keys) != len(b.Keys) || len(a.Kids) != len(b.Kids) {
		return false
	}
	for i := range a.Keys {
		if a.Keys[i] != b.Keys[i] {
			return false
		}
	}
	for i := range a.Kids {
		if !alike(a.Kids[i], b.Kids[i]) {
			return false
		}
	}
	return true
}

// size tells how many trees are in one, itself among them.
func size(x api.Tree) int {
	many := 1
	for _, kid := range x.Kids {
		many += size(kid)
	}
	return many
}

func must(t testing.TB, err error) {
	t.Helper()
	if err != nil {
		t.Fatal(err)
	}
}

// made is for calls that give the id of what they make.
func made(t testing.TB) func(api.Id, error) api.Id {
	return func(a api.Id, err error) api.Id {
		t.Helper()
		must(t, err)
		return a
	}
}

func hand(t testing.TB, actor int) *doc.Doc {
	t.Helper()
	d, err := doc.New(actor)
	must(t, err)
	return d
}

func fork(t testing.TB, d *doc.Doc, actor int) *doc.Doc {
	t.Helper()
	f, err := d.Fork(actor)
	must(t, err)
	return f
}

func commit(t testing.TB, d *doc.Doc) api.Ref {
	t.Helper()
	r, err := d.Commit()
	must(t, err)
	return r
}

func merge(t testing.TB, d, o *doc.Doc) {
	t.Helper()
	_, err := d.Merge(o)
	must(t, err)
}

// tree is that of a text.
func tree(t testing.TB, s string) api.Tree {
	t.Helper()
	x, at, err := json.Parse(s)
	if err != nil {
		t.Fatalf("no tree: %s: %v at %d", s, err, at)
	}
	return x
}

// printed is a tree's text.
func printed(t testing.TB, x api.Tree) string {
	t.Helper()
	s, err := json.Print(x)
	must(t, err)
	return s
}

// written gives changes of an actor that make a tree, a map, of nothing, each hanging on the one ahead.
func written(actor int, x api.Tree) (l []api.Change) {
	var ops []api.Op
	var fill func(obj api.Id, x api.Tree)
	fill = func(obj api.Id, x api.Tree) {
		elem := root
		for i, kid := range x.Kids {
			op := api.Op{Kind: api.Put, Obj: obj, Value: kid.Value}
			if kid.Value.Kind == api.Map || kid.Value.Kind == api.List {
				op.Kind = api.Make
			}
			if x.Value.Kind == api.Map {
				op.Key = x.Keys[i]
			} else {
				op.Elem, op.Insert = elem, true
			}
			ops = append(ops, op)
			elem = api.Id{Num: len(ops), Actor: actor}
			fill(elem, kid)
		}
	}
	fill(root, x)
	for chunk := range slices.Chunk(ops, api.MaxOps) {
		l = append(l, api.Change{Actor: actor, Seq: len(l) + 1, Start: len(l)*api.MaxOps + 1, Ops: chunk})
	}
	if len(l) == 0 {
		l = []api.Change{{Actor: actor, Seq: 1, Start: 1}}
	}
	for i := range l[1:] {
		l[i+1].Deps = refs(actor, i+1)
	}
	return l
}

// apart gives one book in which each tree is written by an actor of its own, and the head of each.
func apart(trees ...api.Tree) (l []api.Change, heads [][]api.Ref) {
	for i, x := range trees {
		l = append(l, written(i+1, x)...)
		heads = append(heads, refsOf(l[len(l)-1:]))
	}
	return l, heads
}

// forked is a book of three hands; its heads are (1, 3) and (3, 1).
func forked(t testing.TB) []api.Change {
	t.Helper()
	one := hand(t, 1)
	l := made(t)(one.Make(root, "l", api.List))
	must(t, one.Insert(l, 0, number(5)))
	commit(t, one)
	two, three := fork(t, one, 2), fork(t, one, 3)
	must(t, two.Put(root, "k", truth(1)))
	commit(t, two)
	must(t, three.Insert(l, 0, count(4)))
	must(t, three.Put(root, "k", text("x")))
	commit(t, three)
	must(t, one.Insert(l, 1, number(6)))
	commit(t, one)
	merge(t, one, two)
	made(t)(one.Make(root, "m", api.Map))
	commit(t, one)
	merge(t, one, three)
	return one.All()
}

// then is what was known behind heads of forked.
type then struct {
	what  string
	heads []api.Ref
	at    []api.Ref
	text  string
}

func thens() []then {
	all := refs(1, 1, 1, 2, 2, 1, 1, 3, 3, 1)
	return []then{
		{"no heads", nil, nil, `{}`},
		{"no heads, an empty list", []api.Ref{}, nil, `{}`},
		{"all heads", refs(1, 3, 3, 1), all, `{"k":"x","l":[4,5,6],"m":{}}`},
		{"all heads, the other way round", refs(3, 1, 1, 3), all, `{"k":"x","l":[4,5,6],"m":{}}`},
		{"all that is there", refs(3, 1, 1, 2, 1, 1, 2, 1, 1, 3), all, `{"k":"x","l":[4,5,6],"m":{}}`},
		{"one of several", refs(1, 3), refs(1, 1, 1, 2, 2, 1, 1, 3), `{"k":true,"l":[5,6],"m":{}}`},
		{"the other one", refs(3, 1), refs(1, 1, 3, 1), `{"k":"x","l":[4,5]}`},
		{"the first change", refs(1, 1), refs(1, 1), `{"l":[5]}`},
		{"one within", refs(1, 2), refs(1, 1, 1, 2), `{"l":[5,6]}`},
		{"one within, of another", refs(2, 1), refs(1, 1, 2, 1), `{"k":true,"l":[5]}`},
		{"two within, which were never all", refs(2, 1, 3, 1), refs(1, 1, 2, 1, 3, 1), `{"k":"x","l":[4,5]}`},
		{"one is behind another", refs(1, 2, 1, 3), refs(1, 1, 1, 2, 2, 1, 1, 3), `{"k":true,"l":[5,6],"m":{}}`},
		{"one is behind another, of another actor", refs(2, 1, 1, 1), refs(1, 1, 2, 1), `{"k":true,"l":[5]}`},
		{"the same twice", refs(2, 1, 2, 1), refs(1, 1, 2, 1), `{"k":true,"l":[5]}`},
		{"the same many times", slices.Repeat(refs(3, 1, 1, 1), 500), refs(1, 1, 3, 1), `{"k":"x","l":[4,5]}`},
	}
}

// wantAt asks for changes by their refs, whole, and in that order.
func wantAt(t testing.TB, what string, l []api.Change, heads, want []api.Ref) {
	t.Helper()
	got, err := At(l, heads)
	if err != nil || !slices.Equal(refsOf(got), want) {
		t.Errorf("%s: At %v: got %v, %v, want %v", what, heads, refsOf(got), err, want)
		return
	}
	for _, c := range got {
		i := slices.IndexFunc(l, func(x api.Change) bool { return refOf(x) == refOf(c) })
		if !reflect.DeepEqual(c, l[i]) {
			t.Errorf("%s: At %v: got %v, want %v", what, heads, c, l[i])
		}
	}
}

func wantTree(t testing.TB, what string, l []api.Change, want api.Tree) {
	t.Helper()
	got, err := Tree(l)
	if err != nil || !alike(got, want) {
		t.Errorf("%s: Tree: got %v, %v, want %v", what, got, err, want)
	}
}

func wantText(t testing.TB, what string, l []api.Change, heads []api.Ref, want string) {
	t.Helper()
	if got, err := Text(l, heads); err != nil || got != want {
		t.Errorf("%s: Text %v: got %q, %v, want %q", what, heads, got, err, want)
	}
}

// wantTold asks At, Text and Diff, and Tree too, if it is l that is wrong, for an error with which nothing else is told.
func wantTold(t testing.TB, what string, l []api.Change, heads []api.Ref, want api.Errno) {
	t.Helper()
	if got, err := At(l, heads); plain.Told(err) != want || got != nil {
		t.Errorf("%s: At %v: got %v, %v, want %v", what, heads, got, err, want)
	}
	if got, err := Text(l, heads); plain.Told(err) != want || got != "" {
		t.Errorf("%s: Text %v: got %q, %v, want %v", what, heads, got, err, want)
	}
	for _, other := range [][]api.Ref{nil, heads, refs(9, 9), refs(1, 1)} {
		wantNoDiff(t, what, l, heads, other, want)
		wantNoDiff(t, what, l, other, heads, want)
	}
	if got, err := Tree(l); want != api.ErrNone && (plain.Told(err) != want || !reflect.DeepEqual(got, api.Tree{})) {
		t.Errorf("%s: Tree: got %v, %v, want %v", what, got, err, want)
	}
}

func wantNoDiff(t testing.TB, what string, l []api.Change, from, to []api.Ref, want api.Errno) {
	t.Helper()
	if got, err := Diff(l, from, to); plain.Told(err) != want || got != nil {
		t.Errorf("%s: Diff from %v to %v: got %v, %v, want %v", what, from, to, got, err, want)
	}
}

// P1: what was known, of heads of all kinds.
func TestAtHeads(t *testing.T) {
	l := forked(t)
	for _, c := range thens() {
		wantAt(t, c.what, l, c.heads, c.at)
		wantText(t, c.what, l, c.heads, c.text)
	}
	// What was known is a book of its own, and all of it was known behind its own heads.
	for _, c := range thens() {
		known, err := At(l, c.heads)
		must(t, err)
		wantAt(t, c.what+", again", known, c.heads, c.at)
		wantTree(t, c.what, known, tree(t, c.text))
	}
}

// P1: of no changes nothing was known, and no head is there.
func TestNoChanges(t *testing.T) {
	for _, l := range [][]api.Change{nil, {}} {
		wantAt(t, "no changes", l, nil, nil)
		wantAt(t, "no changes", l, []api.Ref{}, nil)
		wantText(t, "no changes", l, nil, "{}")
		wantTree(t, "no changes", l, mapOf(""))
		wantDiff(t, "no changes", l, nil, nil)
		wantTold(t, "no changes", l, refs(1, 1), api.ErrNone)
	}
	// Changes without ops are some.
	l := []api.Change{{Actor: 1, Seq: 1, Start: 1}, {Actor: 1, Seq: 2, Start: 1, Deps: refs(1, 1)}}
	wantAt(t, "no ops", l, refs(1, 1), refs(1, 1))
	wantAt(t, "no ops", l, refs(1, 2), refs(1, 1, 1, 2))
	wantText(t, "no ops", l, refs(1, 2), "{}")
	wantTree(t, "no ops", l, mapOf(""))
	wantDiff(t, "no ops", l, nil, refs(1, 2))
}

// orders gives all orders of changes.
func orders(l []api.Change) (all [][]api.Change) {
	if len(l) == 0 {
		return [][]api.Change{nil}
	}
	for i := range l {
		for _, rest := range orders(slices.Delete(slices.Clone(l), i, i+1)) {
			all = append(all, append([]api.Change{l[i]}, rest...))
		}
	}
	return all
}

// isInOrder tells whether each change stands behind its Deps.
func isInOrder(l []api.Change) bool {
	for i, c := range l {
		for _, r := range c.Deps {
			if !slices.Contains(refsOf(l[:i]), r) {
				return false
			}
		}
	}
	return true
}

// P1: in whatever order the changes come that a Book takes one after the other, the answer is in that of All; in another order one waits.
func TestAnyOrder(t *testing.T) {
	told := map[bool]int{}
	for _, l := range orders(forked(t)) {
		isFine := isInOrder(l)
		told[isFine]++
		if !isFine {
			wantTold(t, "out of order", l, refs(1, 3), api.ErrState)
			continue
		}
		for _, c := range thens() {
			wantAt(t, c.what, l, c.heads, c.at)
			wantText(t, c.what, l, c.heads, c.text)
		}
		wantTree(t, "in another order", l, tree(t, `{"k":"x","l":[4,5,6],"m":{}}`))
		wantDiff(t, "in another order", l, refs(1, 3), refs(3, 1))
	}
	// The first change stands ahead of all, and the last of hand 1 behind two others.
	if told[true] != 8 || told[false] != 112 {
		t.Errorf("there are other orders: %v", told)
	}
}

// P1: All's order is not that of refs, and At's is not that in which heads or changes were handed in.
func TestAtOrder(t *testing.T) {
	d, e := hand(t, 1), hand(t, 2)
	must(t, e.Put(root, "a", number(1)))
	commit(t, e)
	merge(t, d, e)
	must(t, d.Put(root, "b", number(2)))
	commit(t, d)
	f := hand(t, 3)
	must(t, f.Put(root, "c", number(3)))
	commit(t, f)
	l := slices.Concat(f.All(), d.All())
	wantAt(t, "actor 1 hangs on actor 2", l, refs(3, 1, 1, 1), refs(2, 1, 1, 1, 3, 1))
	wantAt(t, "actor 1 hangs on actor 2", l, refs(1, 1), refs(2, 1, 1, 1))
	wantAt(t, "actor 2 alone", l, refs(2, 1, 3, 1), refs(2, 1, 3, 1))
}

// P1: ErrNone: a ref is not there, wherever it stands among heads.
func TestNoHead(t *testing.T) {
	l := forked(t)
	for _, r := range []api.Ref{
		{}, {Actor: 1}, {Seq: 1}, {Actor: 1, Seq: 4}, {Actor: 2, Seq: 2}, {Actor: 4, Seq: 1}, {Actor: 3, Seq: 3}, {Actor: 1, Seq: -1}, {Actor: -1, Seq: 1},
		{Actor: api.MaxActor + 1, Seq: 1}, {Actor: 1, Seq: api.MaxNum + 1}, {Actor: math.MaxInt, Seq: math.MinInt}, {Actor: math.MinInt, Seq: math.MaxInt},
	} {
		for at := range 4 {
			wantTold(t, "a ref that is not there", l, slices.Insert(refs(1, 3, 1, 1, 3, 1), at, r), api.ErrNone)
		}
		wantTold(t, "a ref that is not there, alone", l, []api.Ref{r}, api.ErrNone)
		wantTold(t, "a ref that is not there, twice", l, []api.Ref{r, r}, api.ErrNone)
	}
	// Of a part of the changes the others are not there.
	known, err := At(l, refs(2, 1))
	must(t, err)
	wantTold(t, "a part", known, refs(1, 2), api.ErrNone)
	wantTold(t, "a part", known, refs(2, 1, 3, 1), api.ErrNone)
}

// fault is a change that is refused behind forked.
type fault struct {
	what string
	c    api.Change
	want api.Errno
}

func faults(l []api.Change) []fault {
	put := api.Op{Kind: api.Put, Key: "a"}
	other := l[0]
	other.Start++
	with := func(deps []api.Ref, ops ...api.Op) api.Change {
		return api.Change{Actor: 4, Seq: 1, Start: 100, Deps: deps, Ops: ops}
	}
	return []fault{
		{"just one that is there", l[0], api.ErrClash},
		{"just the last one", l[len(l)-1], api.ErrClash},
		{"another one with its Actor and Seq", other, api.ErrClash},
		{"another one that does not fit", api.Change{Actor: 1, Seq: 1, Start: 1, Deps: refs(4, 1)}, api.ErrClash},
		{"one that Check refuses, with an Actor and Seq that are there", api.Change{Actor: 1, Seq: 1}, api.ErrState},
		{"nothing but noughts", api.Change{}, api.ErrState},
		{"no actor", api.Change{Actor: 100, Seq: 1, Start: 1}, api.ErrState},
		{"numbers far off", api.Change{Actor: math.MinInt, Seq: math.MaxInt, Start: math.MinInt}, api.ErrState},
		{"too many Deps", with(refs(1, 1, 2, 1, 3, 1, 4, 1, 5, 1, 6, 1, 7, 1, 8, 1, 9, 1, 10, 1, 11, 1, 12, 1, 13, 1)), api.ErrState},
		{"Deps that do not rise", with(refs(2, 1, 1, 1)), api.ErrState},
		{"too many ops", with(nil, slices.Repeat([]api.Op{put}, 41)...), api.ErrState},
		{"an op of no place", with(nil, api.Op{Kind: api.Put}), api.ErrState},
		{"it waits", with(refs(5, 1), put), api.ErrState},
		{"it waits for itself", with(refs(4, 1), put), api.ErrState},
		{"its actor's first is not there", api.Change{Actor: 4, Seq: 2, Start: 100}, api.ErrState},
		{"its Start is not above all", api.Change{Actor: 4, Seq: 1, Start: 1, Deps: refs(1, 1), Ops: []api.Op{put}}, api.ErrState},
		{"no object", with(nil, api.Op{Kind: api.Put, Obj: api.Id{Num: 1, Actor: 1}, Key: "a"}), api.ErrState},
		{"a key of a list", with(refs(1, 1), api.Op{Kind: api.Put, Obj: api.Id{Num: 1, Actor: 1}, Key: "a"}), api.ErrState},
	}
}

// P1: chapter 7's errors, whatever heads are asked for, and ahead of ErrNone.
func TestNoBook(t *testing.T) {
	l := forked(t)
	for _, f := range faults(l) {
		for _, heads := range [][]api.Ref{nil, refs(1, 1), refs(1, 3, 3, 1), refs(4, 1), refs(9, 9), refs(0, 0)} {
			wantTold(t, f.what, append(l[:len(l):len(l)], f.c), heads, f.want)
		}
	}
	for _, f := range faults(l) {
		for _, g := range faults(l) {
			wantTold(t, f.what+", then "+g.what, append(l[:len(l):len(l)], f.c, g.c), refs(9, 9), f.want)
		}
	}
	alone := []api.Change{{Actor: 1, Seq: 2, Start: 1, Deps: refs(1, 1)}}
	wantTold(t, "one that waits, alone", alone, nil, api.ErrState)
	wantTold(t, "one that waits is there all the same", append(alone, written(1, mapOf(""))...), refs(1, 2), api.ErrState)
}

// P1: a Book has MaxChanges.
func TestManyChanges(t *testing.T) {
	var l []api.Change
	for i := range api.MaxChanges {
		l = append(l, api.Change{Actor: 1, Seq: i + 1, Start: i + 1, Ops: []api.Op{{Kind: api.Put, Key: "a", Value: number(i)}}})
		if i > 0 {
			l[i].Deps, l[i].Ops[0].Preds = refs(1, i), []api.Id{{Num: i, Actor: 1}}
		}
	}
	for _, seq := range []int{1, 2, 60, api.MaxChanges} {
		wantAt(t, "a full book", l, refs(1, seq), refsOf(l[:seq]))
		wantText(t, "a full book", l, refs(1, seq), fmt.Sprintf(`{"a":%d}`, seq-1))
	}
	wantDiff(t, "a full book", l, refs(1, 1), refs(1, api.MaxChanges))
	for _, heads := range [][]api.Ref{nil, refs(1, 1), refs(9, 9)} {
		wantTold(t, "one too many", append(l, api.Change{Actor: 2, Seq: 1, Start: 1}), heads, api.ErrState)
		wantTold(t, "the first again", append(l, l[0]), heads, api.ErrClash)
	}
}

// P1: each kind of value, in a map and in a list; Counts are Numbers.
func TestTreeValues(t *testing.T) {
	for _, c := range []struct{ v, want api.Value }{
		{api.Value{}, api.Value{}}, {truth(0), truth(0)}, {truth(1), truth(1)},
		{number(0), number(0)}, {number(-7), number(-7)}, {number(math.MaxInt), number(math.MaxInt)}, {number(math.MinInt), number(math.MinInt)},
		{text(""), text("")}, {text("a\"\\\n\xff"), text("a\"\\\n\xff")}, {text(strings.Repeat("t", 60)), text(strings.Repeat("t", 60))},
		{count(0), number(0)}, {count(10), number(10)}, {count(-1), number(-1)}, {count(math.MinInt), number(math.MinInt)},
	} {
		d := hand(t, 1)
		must(t, d.Put(root, "k", c.v))
		l := made(t)(d.Make(root, "l", api.List))
		must(t, d.Insert(l, 0, c.v))
		head := commit(t, d)
		want := mapOf("k l", leaf(c.want), list(leaf(c.want)))
		wantTree(t, "a value", d.All(), want)
		wantText(t, "a value", d.All(), []api.Ref{head}, printed(t, want))
		wantDiff(t, "a value", d.All(), nil, []api.Ref{head})
	}
}

// P1: a Count has what was added to it by what was known.
func TestTreeCounts(t *testing.T) {
	d := hand(t, 1)
	must(t, d.Put(root, "c", count(10)))
	l := made(t)(d.Make(root, "l", api.List))
	must(t, d.Insert(l, 0, count(math.MaxInt)))
	commit(t, d)
	e := fork(t, d, 2)
	must(t, e.Add(root, "c", 5))
	commit(t, e)
	must(t, d.Add(root, "c", -3))
	must(t, d.AddAt(l, 0, 1))
	commit(t, d)
	merge(t, d, e)
	wantTree(t, "counts", d.All(), mapOf("c l", leaf(number(12)), list(leaf(number(math.MinInt)))))
	for _, c := range []struct {
		heads []api.Ref
		want  string
	}{
		{refs(1, 1), `{"c":10,"l":[9223372036854775807]}`},
		{refs(2, 1), `{"c":15,"l":[9223372036854775807]}`},
		{refs(1, 2), `{"c":7,"l":[-9223372036854775808]}`},
		{refs(1, 2, 2, 1), `{"c":12,"l":[-9223372036854775808]}`},
	} {
		wantText(t, "counts", d.All(), c.heads, c.want)
		wantDiff(t, "counts", d.All(), nil, c.heads)
		wantDiff(t, "counts", d.All(), refs(1, 1), c.heads)
	}
}

// P1: maps and lists in each other, empty ones, too, and keys by their bytes.
func TestTreeDeep(t *testing.T) {
	x := mapOf("A a \xff",
		list(list(), mapOf(""), list(mapOf("z", leaf(number(1))), leaf(api.Value{}))),
		mapOf("a b", mapOf("a", mapOf("a", list(leaf(text("deep"))))), list(list(list()))),
		leaf(truth(1)))
	l := written(7, x)
	wantTree(t, "deep", l, x)
	wantText(t, "deep", l, refs(7, 1), `{"A":[[],{},[{"z":1},null]],"a":{"a":{"a":{"a":["deep"]}},"b":[[[]]]},"\ff":true}`)

	key := strings.Repeat("k", api.MaxKey)
	long := mapOf(key, mapOf(key, list()))
	wantTree(t, "the longest key", written(1, long), long)
}

// P1: what is gone is not there, nor what was in it.
func TestTreeGone(t *testing.T) {
	d := hand(t, 1)
	m := made(t)(d.Make(root, "m", api.Map))
	l := made(t)(d.Make(m, "l", api.List))
	for i := range 3 {
		must(t, d.Insert(l, i, number(i)))
	}
	must(t, d.Put(root, "a", number(1)))
	commit(t, d)
	must(t, d.Remove(l, 1))
	must(t, d.Del(root, "a"))
	commit(t, d)
	must(t, d.Remove(l, 0))
	must(t, d.Remove(l, 0))
	commit(t, d)
	must(t, d.Del(m, "l"))
	commit(t, d)
	must(t, d.Insert(l, 0, text("in what is gone")))
	must(t, d.Put(root, "m", number(7)))
	commit(t, d)
	must(t, d.Put(m, "a", text("in what is gone")))
	must(t, d.Del(root, "m"))
	commit(t, d)
	for i, want := range []string{`{"a":1,"m":{"l":[0,1,2]}}`, `{"m":{"l":[0,2]}}`, `{"m":{"l":[]}}`, `{"m":{}}`, `{"m":7}`, `{}`} {
		heads := refs(1, i+1)
		known, err := At(d.All(), heads)
		must(t, err)
		wantTree(t, "gone", known, tree(t, want))
		wantText(t, "gone", d.All(), heads, want)
		wantDiff(t, "gone", d.All(), heads, refs(1, 6))
		wantDiff(t, "gone", d.All(), refs(1, 1), heads)
	}
}

// P1: of what several said at one time the first is the value.
func TestTreeSameTime(t *testing.T) {
	d := hand(t, 1)
	l := made(t)(d.Make(root, "l", api.List))
	must(t, d.Insert(l, 0, number(0)))
	commit(t, d)
	e, f := fork(t, d, 2), fork(t, d, 3)
	m := made(t)(d.Make(root, "k", api.Map))
	must(t, d.Put(m, "in", number(1)))
	must(t, d.Set(l, 0, text("one")))
	commit(t, d)
	must(t, e.Put(root, "k", number(2)))
	must(t, e.Set(l, 0, text("two")))
	must(t, e.Insert(l, 0, number(-2)))
	commit(t, e)
	o := made(t)(f.Make(root, "k", api.List))
	must(t, f.Insert(o, 0, number(3)))
	must(t, f.Remove(l, 0))
	commit(t, f)
	merge(t, d, e)
	merge(t, d, f)
	for _, c := range []struct {
		heads []api.Ref
		want  string
	}{
		{refs(1, 2), `{"k":{"in":1},"l":["one"]}`},
		{refs(2, 1), `{"k":2,"l":[-2,"two"]}`},
		{refs(3, 1), `{"k":[3],"l":[]}`},
		{refs(1, 2, 2, 1), `{"k":2,"l":[-2,"one"]}`},
		{refs(2, 1, 3, 1), `{"k":[3],"l":[-2,"two"]}`},
		{refs(1, 2, 3, 1), `{"k":[3],"l":["one"]}`},
		{refs(1, 2, 2, 1, 3, 1), `{"k":[3],"l":[-2,"one"]}`},
	} {
		known, err := At(d.All(), c.heads)
		must(t, err)
		wantTree(t, "at the same time", known, tree(t, c.want))
		wantText(t, "at the same time", d.All(), c.heads, c.want)
		for _, from := range [][]api.Ref{nil, refs(1, 1), refs(1, 2), refs(2, 1), refs(3, 1)} {
			wantDiff(t, "at the same time", d.All(), from, c.heads)
			wantDiff(t, "at the same time", d.All(), c.heads, from)
		}
	}
}

// wide is a map with so many trees in it, itself among them: all but two are elements of a list.
func wide(many int, v api.Value) api.Tree {
	return mapOf("a", list(slices.Repeat([]api.Tree{leaf(v)}, many-2)...))
}

// deep is a map with so many trees in it: each in the one ahead, maps and lists in turn.
func deep(many int) api.Tree {
	x := leaf(text("end"))
	for i := range many - 1 {
		if (many-i)%2 == 0 {
			x = mapOf("k", x)
		} else {
			x = list(x)
		}
	}
	if x.Value.Kind == api.List {
		panic("the root is no map")
	}
	return x
}

// keyed is a map with so many trees in it: all but itself at keys that begin alike.
func keyed(many int, begin string) api.Tree {
	x := mapOf("")
	for i := range many - 1 {
		x.Keys = append(x.Keys, fmt.Sprintf("%s%04d", begin, i))
		x.Kids = append(x.Kids, leaf(number(i)))
	}
	return x
}

// P1: Diff has patches of up to MaxList trees; a tree and a text have no such bound.
func TestTreeFull(t *testing.T) {
	for _, full := range []api.Tree{wide(400, number(1)), deep(400), keyed(400, "k")} {
		if size(full) != api.MaxList {
			t.Fatalf("it has %d trees", size(full))
		}
		l := written(1, full)
		heads := refsOf(l[len(l)-1:])
		wantTree(t, "MaxList trees", l, full)
		wantText(t, "MaxList trees", l, heads, printed(t, full))
		wantDiff(t, "MaxList trees", l, nil, heads)
		wantDiff(t, "MaxList trees", l, heads, nil)
	}
	for _, more := range []api.Tree{wide(401, number(1)), deep(402), keyed(401, "k"), keyed(441, "k"), wide(3000, truth(1)), deep(3000), keyed(999, "k")} {
		l := written(1, more)
		heads := refsOf(l[len(l)-1:])
		wantTree(t, "more than MaxList trees", l, more)
		want, err := state.Text(l)
		must(t, err)
		wantAt(t, "more than MaxList trees", l, heads, refsOf(l))
		wantText(t, "more than MaxList trees", l, heads, want)
		for _, other := range [][]api.Ref{nil, heads, refs(1, 1)} {
			wantNoDiff(t, "more than MaxList trees", l, heads, other, api.ErrFull)
			wantNoDiff(t, "more than MaxList trees", l, other, heads, api.ErrFull)
		}
		// Ahead of the last changes the tree was small enough.
		wantDiff(t, "what was small", l, nil, refs(1, 1))
	}
}

// P1: the tree of a book as full as may be, all ops of which make one tree more.
func TestTreeOfFullBook(t *testing.T) {
	const most = api.MaxChanges*api.MaxOps + 1
	for _, x := range []api.Tree{wide(most, number(1)), deep(most), keyed(most, "k")} {
		l := written(1, x)
		if len(l) != api.MaxChanges {
			t.Fatalf("%d changes", len(l))
		}
		wantTree(t, "a full book", l, x)
	}
}

// P1: what is gone, what is not a place's value, and what others wrote later do not count among the trees.
func TestTreeCounted(t *testing.T) {
	l := written(1, wide(402, number(1)))
	last := l[len(l)-1]
	next := last.Start + len(last.Ops)
	remove := func(num int) api.Op {
		a := api.Id{Num: num, Actor: 1}
		return api.Op{Kind: api.Del, Obj: api.Id{Num: 1, Actor: 1}, Elem: a, Preds: []api.Id{a}}
	}
	l = append(l, api.Change{Actor: 2, Seq: 1, Start: next, Deps: refs(1, last.Seq), Ops: []api.Op{remove(2)}})
	wantTree(t, "401 are left", l, wide(401, number(1)))
	wantNoDiff(t, "401 are left", l, nil, refs(2, 1), api.ErrFull)
	l = append(l, api.Change{Actor: 2, Seq: 2, Start: next + 1, Deps: refs(2, 1), Ops: []api.Op{remove(3)}})
	wantTree(t, "400 are left", l, wide(400, number(1)))
	wantNoDiff(t, "401 and 400", l, refs(2, 1), refs(2, 2), api.ErrFull)
	wantNoDiff(t, "400 and 401", l, refs(2, 2), refs(2, 1), api.ErrFull)
	wantDiff(t, "400", l, refs(2, 2), nil)

	// A list that is not the value of its place, as another one was said at the same time.
	hidden, seen := written(1, wide(500, number(1))), written(2, wide(400, number(2)))
	wantTree(t, "the first of two values", slices.Concat(hidden, seen), wide(400, number(2)))
	wantTree(t, "the first of two values", slices.Concat(seen, hidden), wide(400, number(2)))
}

// P1: a tree may have a text that is longer than Parse takes.
func TestTreeLongText(t *testing.T) {
	x := mapOf("")
	for i := range 399 {
		x.Keys = append(x.Keys, strings.Repeat("\xff", 17)+fmt.Sprintf("%03d", i))
		x.Kids = append(x.Kids, leaf(text(strings.Repeat("\x00", 60))))
	}
	l := written(1, x)
	heads := refsOf(l[len(l)-1:])
	s := printed(t, x)
	if len(s) <= api.MaxBytes {
		t.Fatalf("the text has %d bytes", len(s))
	}
	wantTree(t, "a long text", l, x)
	wantText(t, "a long text", l, heads, s)
	wantDiff(t, "a long text", l, nil, heads)
	wantDiff(t, "a long text", l, heads, refs(1, 1))
}

// bookOf takes changes.
func bookOf(t testing.TB, l []api.Change) *dag.Book {
	t.Helper()
	b := dag.New()
	for _, c := range l {
		must(t, b.Take(c))
	}
	return b
}

// P1: behind a book's heads all of it was known, in the order of All.
func TestAllWasKnown(t *testing.T) {
	l := forked(t)
	for many := range len(l) + 1 {
		b := bookOf(t, l[:many])
		wantAt(t, "all heads", l, b.Heads(), refsOf(b.All()))
		wantAt(t, "all heads of a part", l[:many], b.Heads(), refsOf(b.All()))
	}
}
