package json

import (
	"fmt"
	"math"
	"slices"
	"strings"
	"testing"

	"commonbook/api"
)

// path of steps: a text is a key, a number an index.
func path(steps ...any) (l []api.Step) {
	for _, s := range steps {
		switch s := s.(type) {
		case string:
			l = append(l, api.Step{Key: s})
		case int:
			l = append(l, api.Step{At: s})
		case api.Step:
			l = append(l, s)
		}
	}
	return l
}

const book = `{"a":[1,{"b":1,"c":[]},[null,[true]]],"b":{"a":{"a":"x"}},"c\0a":"","d":{}}`

// J2: Get goes from the outside in.
func TestGet(t *testing.T) {
	x := tree(t, book)
	for _, c := range []struct {
		path []api.Step
		want string
	}{
		{nil, book},
		{path(), book},
		{path("a"), `[1,{"b":1,"c":[]},[null,[true]]]`},
		{path("a", 0), `1`},
		{path("a", 1), `{"b":1,"c":[]}`},
		{path("a", 1, "b"), `1`},
		{path("a", 1, "c"), `[]`},
		{path("a", 2), `[null,[true]]`},
		{path("a", 2, 0), `null`},
		{path("a", 2, 1), `[true]`},
		{path("a", 2, 1, 0), `true`},
		{path("b"), `{"a":{"a":"x"}}`},
		{path("b", "a"), `{"a":"x"}`},
		{path("b", "a", "a"), `"x"`},
		{path("c\n"), `""`},
		{path("d"), `{}`},
	} {
		got, err := Get(x, c.path)
		if !same(got, tree(t, c.want)) || err != nil {
			t.Errorf("Get of %v: got %v, %v, want %s", c.path, got, err, c.want)
		}
	}
	for _, r := range right {
		if got, err := Get(r.t, nil); !same(got, r.t) || err != nil {
			t.Errorf("Get of no steps of %s: got %v, %v", r.text, got, err)
		}
	}
}

// J2: ErrNone: there is none, or a step is no such.
func TestGetNone(t *testing.T) {
	x := tree(t, book)
	for _, p := range [][]api.Step{
		path("e"), path("A"), path("aa"), path("c"), path("\n"), path(longKey + "k"), path(strings.Repeat("k", 5000)),
		path(0), path(-1), path(1), path(math.MinInt), path(math.MaxInt), path(""),
		path(api.Step{Key: "a", At: 1}), path(api.Step{Key: "a", At: -1}), path(api.Step{Key: "d", At: math.MinInt}),
		path("a", -1), path("a", 3), path("a", 4), path("a", math.MinInt), path("a", math.MaxInt),
		path("a", "a"), path("a", "0"), path("a", api.Step{Key: "b", At: 1}), path("a", api.Step{Key: "a"}),
		path("a", 1, 0), path("a", 1, "a"), path("a", 1, "c", 0), path("a", 1, api.Step{Key: "b", At: 1}),
		path("a", 0, 0), path("a", 0, "a"), path("a", 0, ""), path("a", 2, 0, 0), path("a", 2, 1, 0, 0), path("a", 2, 1, 1), path("a", 2, 2),
		path("c\n", 0), path("c\n", "a"), path("d", "a"), path("d", 0), path("b", "a", "a", "a"), path("b", "b"), path("e", "a"), path("e", 0),
		slices.Repeat(path("a"), 5000),
	} {
		got, err := Get(x, p)
		if wantTold(t, fmt.Sprintf("Get of %.200v", fmt.Sprint(p)), err, api.ErrNone); !same(got, null) {
			t.Errorf("Get of %v: got %v beside an error", p, got)
		}
	}
	for _, plain := range []api.Tree{null, yes, num(1), text("a"), list(), mapOf("")} {
		for _, p := range [][]api.Step{path(0), path("a"), path(""), path(-1)} {
			_, err := Get(plain, p)
			wantTold(t, fmt.Sprintf("Get of %v in %v", p, plain), err, api.ErrNone)
		}
	}
}

// J2: into a tree as deep, and as wide, as may be.
func TestGetFar(t *testing.T) {
	if got, err := Get(nest(400), slices.Repeat(path(0), 399)); !same(got, list()) || err != nil {
		t.Errorf("Get of a nest: got %v, %v", got, err)
	}
	_, err := Get(nest(400), slices.Repeat(path(0), 400))
	wantTold(t, "Get of one step more", err, api.ErrNone)
	if got, err := Get(row(400), path(398)); !same(got, null) || err != nil {
		t.Errorf("Get of a row: got %v, %v", got, err)
	}
	_, err = Get(row(400), path(399))
	wantTold(t, "Get of one index more", err, api.ErrNone)
}

// J3: Paths of each value, in the order in which they are printed.
func TestPaths(t *testing.T) {
	x := tree(t, `{"A":{"b":1,"c":1},"a":[1,{"a":1,"b":[]},[null,[true]],false,null,"","x","1"],"b":1,"c":{"a":{"a":"x"}},"d":-1}`)
	for _, c := range []struct {
		v    api.Tree
		want [][]api.Step
	}{
		{num(1), [][]api.Step{path("A", "b"), path("A", "c"), path("a", 0), path("a", 1, "a"), path("b")}},
		{num(-1), [][]api.Step{path("d")}},
		{num(0), nil},
		{null, [][]api.Step{path("a", 2, 0), path("a", 4)}},
		{yes, [][]api.Step{path("a", 2, 1, 0)}},
		{no, [][]api.Step{path("a", 3)}},
		{text(""), [][]api.Step{path("a", 5)}},
		{text("x"), [][]api.Step{path("a", 6), path("c", "a", "a")}},
		{text("1"), [][]api.Step{path("a", 7)}},
		{text("y"), nil},
		{mapOf(""), [][]api.Step{path(), path("A"), path("a", 1), path("c"), path("c", "a")}},
		{list(), [][]api.Step{path("a"), path("a", 1, "b"), path("a", 2), path("a", 2, 1)}},
	} {
		wantPaths(t, x, c.v.Value, c.want)
	}
	wantPaths(t, num(1), num(1).Value, [][]api.Step{nil})
	wantPaths(t, num(1), num(2).Value, nil)
	wantPaths(t, null, null.Value, [][]api.Step{nil})
	wantPaths(t, null, no.Value, nil)
	wantPaths(t, list(), mapOf("").Value, nil)
	wantPaths(t, doubled(3), list().Value, [][]api.Step{nil, path(0), path(0, 0), path(0, 1), path(1), path(1, 0), path(1, 1)})
}

func wantPaths(t *testing.T, x api.Tree, v api.Value, want [][]api.Step) {
	t.Helper()
	got, err := Paths(x, v)
	if !slices.EqualFunc(got, want, slices.Equal) || err != nil {
		t.Errorf("Paths of %v in %v: got %v, %v, want %v", v, x, got, err, want)
	}
}

// J3: Paths in a tree as deep, and as wide, as may be.
func TestPathsFar(t *testing.T) {
	got, err := Paths(nest(400), list().Value)
	if len(got) != 400 || err != nil {
		t.Fatalf("Paths of a nest: got %d, %v", len(got), err)
	}
	for i, p := range got {
		if !slices.Equal(p, slices.Repeat(path(0), i)) {
			t.Errorf("Paths of a nest: path %d has %d steps", i, len(p))
		}
	}
	got, err = Paths(row(400), null.Value)
	if len(got) != 399 || err != nil {
		t.Fatalf("Paths of a row: got %d, %v", len(got), err)
	}
	for i, p := range got {
		if !slices.Equal(p, path(i)) {
			t.Errorf("Paths of a row: path %d is %v", i, p)
		}
	}
}

// J3: ErrRange: v is none.
func TestPathsRange(t *testing.T) {
	for _, x := range []api.Tree{null, num(5), tree(t, book), row(400)} {
		for _, v := range noValues {
			got, err := Paths(x, v)
			if wantTold(t, fmt.Sprintf("Paths of %v", v), err, api.ErrRange); len(got) != 0 {
				t.Errorf("Paths of %v: got %v beside an error", v, got)
			}
		}
	}
}
