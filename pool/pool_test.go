package pool

import (
	"cmp"
	"fmt"
	"reflect"
	"slices"
	"strconv"
	"strings"
	"testing"

	"commonbook/api"
	"commonbook/doc"
	"commonbook/plain"
)

var root = api.Id{}

const most = api.MaxChanges

type books = [][]api.Change

// refs of numbers: an actor, a Seq, and so on.
func refs(n ...int) (l []api.Ref) {
	for i := 0; i < len(n); i += 2 {
		l = append(l, api.Ref{Actor: n[i], Seq: n[i+1]})
	}
	return l
}

func number(n int) api.Value { return api.Value{Kind: api.Number, Num: n} }

func must(t testing.TB, err error) {
	t.Helper()
	if err != nil {
		t.Fatal(err)
	}
}

func hand(t testing.TB, actor int) *doc.Doc {
	t.Helper()
	d, err := doc.New(actor)
	must(t, err)
	return d
}

func fork(t testing.TB, d *doc.Doc, actor int) *doc.Doc {
	t.Helper()
	f, err := d.Fork(actor)
	must(t, err)
	return f
}

func merge(t testing.TB, d, o *doc.Doc) {
	t.Helper()
	_, err := d.Merge(o)
	must(t, err)
}

// put has a hand say a number at a key, as a change of its own.
func put(t testing.TB, d *doc.Doc, key string, n int) {
	t.Helper()
	must(t, d.Put(root, key, number(n)))
	_, err := d.Commit()
	must(t, err)
}

// chain is changes of one actor, each of which hangs on the one ahead and puts a number at a key: from, from + 1, and so on.
func chain(actor, many, from int) (l []api.Change) {
	for i := range many {
		c := api.Change{Actor: actor, Seq: i + 1, Start: i + 1}
		op := api.Op{Kind: api.Put, Key: "k" + strconv.Itoa(actor), Value: number(from + i)}
		if i > 0 {
			c.Deps = refs(actor, i)
			op.Preds = []api.Id{{Num: i, Actor: actor}}
		}
		c.Ops = []api.Op{op}
		l = append(l, c)
	}
	return l
}

// both gives the changes of several lists.
func both(l ...[]api.Change) []api.Change { return slices.Concat(l...) }

// plainly is changes in memory of their own, with nil for each empty list.
func plainly(l []api.Change) (out []api.Change) {
	for _, c := range l {
		c.Deps, c.Ops = append([]api.Ref(nil), c.Deps...), append([]api.Op(nil), c.Ops...)
		for i, op := range c.Ops {
			c.Ops[i].Preds = append([]api.Id(nil), op.Preds...)
		}
		out = append(out, c)
	}
	return out
}

func refOf(c api.Change) api.Ref { return api.Ref{Actor: c.Actor, Seq: c.Seq} }

func refsOf(l []api.Change) (out []api.Ref) {
	for _, c := range l {
		out = append(out, refOf(c))
	}
	return out
}

func compareRefs(a, b api.Ref) int {
	return cmp.Or(cmp.Compare(a.Actor, b.Actor), cmp.Compare(a.Seq, b.Seq))
}

// wantUnion asks each number of workers, and the last one once more.
func wantUnion(t testing.TB, what string, l books, want []api.Change) {
	t.Helper()
	for _, workers := range []int{1, 2, 3, 4, 5, 6, 7, 8, 8} {
		got, err := Union(l, workers)
		if !reflect.DeepEqual(plainly(got), plainly(want)) || err != nil {
			t.Errorf("%s: Union by %d: got %v, %v, want %v", what, workers, got, err, want)
		}
	}
}

func wantNoUnion(t testing.TB, what string, l books, workers int, want api.Errno) {
	t.Helper()
	if got, err := Union(l, workers); got != nil || plain.Told(err) != want {
		t.Errorf("%s: Union by %d: got %v, %v, want %v", what, workers, got, err, want)
	}
}

func wantTexts(t testing.TB, what string, l books, want ...string) {
	t.Helper()
	for _, workers := range []int{1, 2, 3, 4, 5, 6, 7, 8, 8} {
		if got, err := Texts(l, workers); !slices.Equal(got, want) || err != nil {
			t.Errorf("%s: Texts by %d: got %q, %v, want %q", what, workers, got, err, want)
		}
	}
}

func wantNoTexts(t testing.TB, what string, l books, workers int, want api.Errno) {
	t.Helper()
	if got, err := Texts(l, workers); got != nil || plain.Told(err) != want {
		t.Errorf("%s: Texts by %d: got %q, %v, want %v", what, workers, got, err, want)
	}
}

func wantCommon(t testing.TB, what string, l books, want []api.Ref) {
	t.Helper()
	for range 2 {
		if got, err := Common(l); !slices.Equal(got, want) || err != nil {
			t.Errorf("%s: Common: got %v, %v, want %v", what, got, err, want)
		}
	}
}

func wantNoCommon(t testing.TB, what string, l books, want api.Errno) {
	t.Helper()
	if got, err := Common(l); got != nil || plain.Told(err) != want {
		t.Errorf("%s: Common: got %v, %v, want %v", what, got, err, want)
	}
}

// O1: no books: nothing is together, and nothing is common to all.
func TestNoBooks(t *testing.T) {
	for _, l := range []books{nil, {}} {
		wantUnion(t, "no books", l, nil)
		wantTexts(t, "no books", l)
		wantCommon(t, "no books", l, nil)
	}
}

// O1: one book is itself.
func TestOneBook(t *testing.T) {
	for _, many := range []int{1, 2, 3, most} {
		l := books{chain(1, many, 5)}
		wantUnion(t, "one book", l, l[0])
		wantTexts(t, "one book", l, `{"k1":`+strconv.Itoa(4+many)+`}`)
		wantCommon(t, "one book", l, refsOf(l[0]))
	}
}

// O1: two books: what either has, and what both have.
func TestTwoBooks(t *testing.T) {
	one, two := chain(1, 3, 5), chain(2, 2, 7)
	for _, c := range []struct {
		what   string
		l      books
		union  []api.Change
		texts  []string
		common []api.Ref
	}{
		{"nothing of each other", books{one, two}, both(one, two), []string{`{"k1":7}`, `{"k2":8}`}, nil},
		{"the other way round", books{two, one}, both(one, two), []string{`{"k2":8}`, `{"k1":7}`}, nil},
		{"the same", books{one, one}, one, []string{`{"k1":7}`, `{"k1":7}`}, refs(1, 1, 1, 2, 1, 3)},
		{"all of the other one", books{one, one[:2]}, one, []string{`{"k1":7}`, `{"k1":6}`}, refs(1, 1, 1, 2)},
		{"all is in the other one", books{one[:2], one}, one, []string{`{"k1":6}`, `{"k1":7}`}, refs(1, 1, 1, 2)},
		{"all of two in one", books{both(two, one), two}, both(one, two), []string{`{"k1":7,"k2":8}`, `{"k2":8}`}, refs(2, 1, 2, 2)},
		{"some", books{both(two, one[:1]), both(one, two[:1])}, both(one, two), []string{`{"k1":5,"k2":8}`, `{"k1":7,"k2":7}`}, refs(1, 1, 2, 1)},
		{"nothing at all", books{nil, {}}, nil, []string{"{}", "{}"}, nil},
		{"nothing in the first", books{nil, one}, one, []string{"{}", `{"k1":7}`}, nil},
		{"nothing in the last", books{one, {}}, one, []string{`{"k1":7}`, "{}"}, nil},
	} {
		wantUnion(t, c.what, c.l, c.union)
		wantTexts(t, c.what, c.l, c.texts...)
		wantCommon(t, c.what, c.l, c.common)
	}
}

// O1: as many books as there may be, each with a change of its own behind one that all have.
func TestManyBooks(t *testing.T) {
	for many := 3; many <= maxBooks; many++ {
		first := hand(t, 1)
		put(t, first, "k", 0)
		var l books
		union, texts := first.All(), []string(nil)
		for i := range many {
			d := fork(t, first, 2+i)
			put(t, d, "k", i)
			l = append(l, d.All())
			union = append(union, d.All()[1])
			texts = append(texts, `{"k":`+strconv.Itoa(i)+`}`)
		}
		wantUnion(t, "many", l, union)
		wantTexts(t, "many", l, texts...)
		wantCommon(t, "many", l, refs(1, 1))
		l[many-1] = union
		wantCommon(t, "one has all", l, refs(1, 1))
	}
}

// O1: the same book several times.
func TestSameBook(t *testing.T) {
	l := both(chain(1, 60, 0), chain(2, 60, 0))
	for _, many := range []int{1, 2, 3, 8, maxBooks} {
		same := slices.Repeat(books{l}, many)
		wantUnion(t, "the same", same, l)
		wantTexts(t, "the same", same, slices.Repeat([]string{`{"k1":59,"k2":59}`}, many)...)
		wantCommon(t, "the same", same, refsOf(l))
	}
}

// O1: books without changes among others.
func TestEmptyBooks(t *testing.T) {
	one, two := chain(1, 2, 1), chain(2, 2, 1)
	wantTexts(t, "empty ones", books{nil, one, {}, both(one, two), nil}, "{}", `{"k1":2}`, "{}", `{"k1":2,"k2":2}`, "{}")
	for many := 1; many <= maxBooks; many++ {
		empty := make(books, many)
		wantUnion(t, "empty", empty, nil)
		wantTexts(t, "empty", empty, slices.Repeat([]string{"{}"}, many)...)
		wantCommon(t, "empty", empty, nil)
		for at := range many {
			full := slices.Repeat(books{one}, many)
			full[at] = nil
			if many > 1 {
				wantUnion(t, "one is empty", full, one)
			}
			wantCommon(t, "one is empty", full, nil)
		}
	}
}

// O1: Union is in the order of All, however the books and their changes come.
func TestOrder(t *testing.T) {
	// (2, 1), then (1, 1) behind it, then (1, 2); (3, 1) is behind nothing.
	a := api.Change{Actor: 2, Seq: 1, Start: 1}
	b := api.Change{Actor: 1, Seq: 1, Start: 1, Deps: refs(2, 1)}
	c := api.Change{Actor: 1, Seq: 2, Start: 1, Deps: refs(1, 1)}
	d := api.Change{Actor: 3, Seq: 1, Start: 1}
	want := []api.Change{a, b, c, d}
	for _, l := range []books{
		{want}, {{a, b, c}, {d}}, {{d}, {a, b, c}}, {{a, d, b, c}}, {{d, a, b, c}}, {{a, b, d, c}}, {{a}, {a, b}, {d, a}, {a, b, c}},
		{{a, b, c}, {a, b}, {a}, {d}}, {{d, a}, {a, b, c}}, {nil, {d, a, b}, {a, d}, {a, b, c}, {}},
	} {
		wantUnion(t, fmt.Sprint(l), l, want)
	}
}

// O1: Common rises, however All is ordered.
func TestCommonRises(t *testing.T) {
	a := api.Change{Actor: 3, Seq: 1, Start: 1}
	b := api.Change{Actor: 2, Seq: 1, Start: 1, Deps: refs(3, 1)}
	c := api.Change{Actor: 1, Seq: 1, Start: 1, Deps: refs(2, 1)}
	d := api.Change{Actor: 3, Seq: 2, Start: 1, Deps: refs(1, 1, 3, 1)}
	wantCommon(t, "one", books{{a, b, c, d}}, refs(1, 1, 2, 1, 3, 1, 3, 2))
	wantCommon(t, "two", books{{a, b, c, d}, {a, b, c}}, refs(1, 1, 2, 1, 3, 1))
	wantCommon(t, "three", books{{a, b, c, d}, {a, b}, {a, b, c}}, refs(2, 1, 3, 1))
}

// O1: to Common an Actor and Seq are alike, whatever the changes say.
func TestCommonAlike(t *testing.T) {
	wantCommon(t, "other numbers", books{chain(1, 3, 0), chain(1, 2, 50)}, refs(1, 1, 1, 2))
	bare := []api.Change{{Actor: 1, Seq: 1, Start: 1}, {Actor: 2, Seq: 1, Start: 1}, {Actor: 1, Seq: 2, Start: 7, Deps: refs(1, 1, 2, 1)}}
	wantCommon(t, "other Deps", books{chain(1, 3, 0), bare, chain(1, 4, 9)}, refs(1, 1, 1, 2))
	wantNoUnion(t, "other numbers", books{chain(1, 3, 0), chain(1, 2, 50)}, 1, api.ErrClash)
	wantTexts(t, "other numbers", books{chain(1, 3, 0), chain(1, 2, 50)}, `{"k1":2}`, `{"k1":51}`)
}

// O1: what one book of several lacks is not common.
func TestCommonLacked(t *testing.T) {
	whole := both(chain(1, 2, 0), chain(2, 2, 0), chain(3, 2, 0))
	lacks := func(r api.Ref) []api.Change {
		return slices.DeleteFunc(slices.Clone(whole), func(c api.Change) bool { return c.Actor == r.Actor && c.Seq >= r.Seq })
	}
	for _, r := range refsOf(whole) {
		for at := range 7 {
			l := slices.Repeat(books{whole}, 7)
			l[at] = lacks(r)
			wantCommon(t, fmt.Sprint("the book at ", at, " lacks ", r), l, refsOf(lacks(r)))
			wantUnion(t, "all but one have all", l, whole)
		}
	}
}

// O1: Texts tells of each book its own Text, in the books' order, also where they could not be one.
func TestTexts(t *testing.T) {
	d := hand(t, 1)
	list, err := d.Make(root, "l", api.List)
	must(t, err)
	must(t, d.Insert(list, 0, api.Value{Kind: api.Text, Text: "a\n"}))
	must(t, d.Insert(list, 1, api.Value{Kind: api.Truth, Num: 1}))
	_, err = d.InsertNew(list, 2, api.Map)
	must(t, err)
	_, err = d.Commit()
	must(t, err)
	e := fork(t, d, 2)
	must(t, e.Remove(list, 1))
	_, err = e.Commit()
	must(t, err)
	put(t, d, "k", 8)
	was := d.All()
	merge(t, d, e)
	wantTexts(t, "made by hands", books{d.All(), e.All(), was, nil, was[:1]},
		`{"k":8,"l":["a\0a",{}]}`, `{"l":["a\0a",{}]}`, `{"k":8,"l":["a\0a",true,{}]}`, "{}", `{"l":["a\0a",true,{}]}`)
	var l books
	var want []string
	for i := range maxBooks {
		l = append(l, chain(1, 1+i*i%7, 100*i))
		want = append(want, fmt.Sprintf(`{"k1":%d}`, 100*i+i*i%7))
	}
	wantTexts(t, "unlike ones", l, want...)
	slices.Reverse(l)
	slices.Reverse(want)
	wantTexts(t, "unlike ones, the other way round", l, want...)
}

// O1: books as full as may be are read, and together a Book's fill is not too much.
func TestFullBooks(t *testing.T) {
	var whole []api.Change
	for actor := 1; actor <= 12; actor++ {
		whole = both(whole, chain(actor, 10, 0))
	}
	parts := slices.Collect(slices.Chunk(whole, 10))
	wantUnion(t, "parts", parts, whole)
	wantUnion(t, "parts, and the whole", append(parts, whole, whole), whole)
	wantCommon(t, "parts", parts, nil)
	text, err := Texts(books{whole}, 1)
	must(t, err)
	if strings.Count(text[0], ":9") != 12 {
		t.Errorf("Texts of a full book: got %q", text)
	}
}
