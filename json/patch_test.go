package json

import (
	"fmt"
	"math"
	"slices"
	"strings"
	"testing"

	"commonbook/api"
)

func put(v api.Tree, steps ...any) api.Patch {
	return api.Patch{Kind: api.PatchSet, Path: path(steps...), Value: v.Value}
}

func gone(steps ...any) api.Patch { return api.Patch{Kind: api.PatchGone, Path: path(steps...)} }

func insertion(v api.Tree, steps ...any) api.Patch {
	return api.Patch{Kind: api.PatchInsert, Path: path(steps...), Value: v.Value}
}

// wantApplied asks for the tree that patches make of that of a text.
func wantApplied(t *testing.T, s, want string, p ...api.Patch) {
	t.Helper()
	got, err := Apply(tree(t, s), p)
	if err != nil {
		t.Errorf("Apply of %v to %s: got %v", p, s, err)
		return
	}
	if text, err := Print(got); text != want || err != nil {
		t.Errorf("Apply of %v to %s: got %s, %v, want %s", p, s, text, err, want)
	}
}

// wantNotApplied asks for an error, and that nothing is answered beside it.
func wantNotApplied(t *testing.T, x api.Tree, want api.Errno, p ...api.Patch) {
	t.Helper()
	got, err := Apply(x, p)
	wantTold(t, fmt.Sprintf("Apply of %.200s", fmt.Sprint(p)), err, want)
	if err != nil && !same(got, null) {
		t.Errorf("Apply of %v: got %v beside an error", p, got)
	}
}

// J3: no patches leave all as it is.
func TestApplyNone(t *testing.T) {
	for _, x := range right {
		wantApplied(t, x.text, x.text)
		wantApplied(t, x.text, x.text, []api.Patch{}...)
	}
	wantNotApplied(t, row(400), api.OK)
}

// J3: each kind of patch, at keys and indexes.
func TestApply(t *testing.T) {
	for _, c := range []struct {
		text, want string
		p          api.Patch
	}{
		// A key that is there.
		{`{"a":1}`, `{"a":2}`, put(num(2), "a")},
		{`{"a":1,"b":2,"c":3}`, `{"a":1,"b":null,"c":3}`, put(null, "b")},
		{`{"a":[1,2],"b":2}`, `{"a":"x","b":2}`, put(text("x"), "a")},
		{`{"a":[1,2]}`, `{"a":[]}`, put(list(), "a")},
		{`{"a":{"a":1}}`, `{"a":{}}`, put(mapOf(""), "a")},
		{`{"a":1}`, `{"a":1}`, put(num(1), "a")},
		// A new key.
		{`{}`, `{"a":2}`, put(num(2), "a")},
		{`{}`, `{"a":[]}`, put(list(), "a")},
		{`{"b":1}`, `{"a":2,"b":1}`, put(num(2), "a")},
		{`{"b":1}`, `{"b":1,"c":{}}`, put(mapOf(""), "c")},
		{`{"a":1,"c":3}`, `{"a":1,"b":2,"c":3}`, put(num(2), "b")},
		{`{"a":1}`, `{"B":2,"a":1}`, put(num(2), "B")},
		{`{"a":1}`, `{"a":1,"aa":2}`, put(num(2), "aa")},
		{`{"a":1}`, `{"\0a":2,"a":1}`, put(num(2), "\n")},
		{`{"a":1}`, `{"a":1,"\ff":2}`, put(num(2), "\xff")},
		{`{"a":1}`, `{"a":1,"` + longKey + `":2}`, put(num(2), longKey)},
		// An index that is there.
		{`[1]`, `[2]`, put(num(2), 0)},
		{`[1,2,3]`, `["x",2,3]`, put(text("x"), 0)},
		{`[1,2,3]`, `[1,2,true]`, put(yes, 2)},
		{`[1,[2,3],4]`, `[1,[],4]`, put(list(), 1)},
		{`[1,[2,3],4]`, `[1,{},4]`, put(mapOf(""), 1)},
		// What is gone.
		{`{"a":1}`, `{}`, gone("a")},
		{`{"a":1,"b":{"c":[]},"d":3}`, `{"a":1,"d":3}`, gone("b")},
		{`{"a":1,"b":2}`, `{"b":2}`, gone("a")},
		{`{"a":1,"b":2}`, `{"a":1}`, gone("b")},
		{`[1]`, `[]`, gone(0)},
		{`[1,2,3]`, `[2,3]`, gone(0)},
		{`[1,2,3]`, `[1,3]`, gone(1)},
		{`[1,2,3]`, `[1,2]`, gone(2)},
		{`[[1,2],[3]]`, `[[3]]`, gone(0)},
		// What comes in.
		{`[]`, `[1]`, insertion(num(1), 0)},
		{`[]`, `[[]]`, insertion(list(), 0)},
		{`[1,2]`, `[0,1,2]`, insertion(num(0), 0)},
		{`[1,2]`, `[1,{},2]`, insertion(mapOf(""), 1)},
		{`[1,2]`, `[1,2,""]`, insertion(text(""), 2)},
		// Further in.
		{`{"a":[1,{"b":[5]}],"c":1}`, `{"a":[1,{"b":[null]}],"c":1}`, put(null, "a", 1, "b", 0)},
		{`{"a":[1,{"b":[5]}],"c":1}`, `{"a":[1,{"b":[5],"c":false}],"c":1}`, put(no, "a", 1, "c")},
		{`{"a":[1,{"b":[5]}],"c":1}`, `{"a":[1,{"b":[5,6]}],"c":1}`, insertion(num(6), "a", 1, "b", 1)},
		{`{"a":[1,{"b":[5]}],"c":1}`, `{"a":[1,{"b":[]}],"c":1}`, gone("a", 1, "b", 0)},
		{`{"a":[1,{"b":[5]}],"c":1}`, `{"a":[1,{}],"c":1}`, gone("a", 1, "b")},
		{`{"a":[1,{"b":[5]}],"c":1}`, `{"a":[{"b":[5]}],"c":1}`, gone("a", 0)},
		{`{"a":{"a":{"a":1}}}`, `{"a":{"a":2}}`, put(num(2), "a", "a")},
		{`[[[1],2],3]`, `[[[1],0,2],3]`, insertion(num(0), 0, 1)},
	} {
		wantApplied(t, c.text, c.want, c.p)
	}
	// PatchGone has no use for a Value, but for its being one.
	wantApplied(t, `{"a":1,"b":2}`, `{"b":2}`, api.Patch{Kind: api.PatchGone, Path: path("a"), Value: num(7).Value})
}

// J3: each value that a tree has may come to be at a place.
func TestApplyValues(t *testing.T) {
	for _, x := range right {
		want := x.text
		switch x.t.Value.Kind {
		case api.Map:
			want = "{}"
		case api.List:
			want = "[]"
		}
		wantApplied(t, `{"k":[1]}`, `{"k":`+want+`}`, put(x.t, "k"))
		wantApplied(t, `{"k":1}`, `{"j":`+want+`,"k":1}`, put(x.t, "j"))
		wantApplied(t, `[1,2]`, `[1,`+want+`]`, put(x.t, 1))
		wantApplied(t, `[1,2]`, `[1,`+want+`,2]`, insertion(x.t, 1))
	}
}

// J3: patches are done one after the other.
func TestApplyInTurn(t *testing.T) {
	wantApplied(t, `{}`, `{"a":[1,2]}`, put(list(), "a"), insertion(num(2), "a", 0), insertion(num(1), "a", 0))
	wantApplied(t, `{}`, `{"a":{"b":{"c":1}}}`, put(mapOf(""), "a"), put(mapOf(""), "a", "b"), put(num(1), "a", "b", "c"))
	wantApplied(t, `[1,2,3]`, `[]`, gone(0), gone(0), gone(0))
	wantApplied(t, `[1,2,3]`, `[3,9]`, gone(0), insertion(num(9), 2), gone(0))
	wantApplied(t, `{"a":1,"b":2}`, `{"a":3,"b":2}`, gone("a"), put(num(3), "a"))
	wantApplied(t, `{"a":1}`, `{"a":3}`, put(num(2), "a"), put(num(3), "a"))
	wantApplied(t, `[]`, `[[],[1]]`, insertion(list(), 0), insertion(list(), 0), insertion(num(1), 1, 0))
	wantApplied(t, `{"a":{"x":1},"b":{}}`, `{"a":{},"b":{"x":2}}`, put(mapOf(""), "a"), put(num(2), "b", "x"))
	wantNotApplied(t, list(num(1)), api.ErrNone, gone(0), gone(0))
	wantNotApplied(t, mapOf("a", list()), api.ErrNone, put(num(1), "a"), insertion(num(1), "a", 0))
	wantNotApplied(t, mapOf("a", list(num(1))), api.ErrNone, put(list(), "a"), put(num(1), "a", 0))
	wantNotApplied(t, mapOf("a", null), api.ErrNone, gone("a"), gone("a"))
}

// J3: ErrNone: there is no such place.
func TestApplyNoPlace(t *testing.T) {
	x := tree(t, book)
	nowhere := [][]api.Step{
		nil, path(""), path(0), path(-1), path(math.MinInt), path(math.MaxInt),
		path(api.Step{Key: "a", At: 1}), path(api.Step{Key: "a", At: -1}), path(api.Step{Key: "new", At: 1}),
		path("a", -1), path("a", 4), path("a", math.MinInt), path("a", math.MaxInt), path("a", "a"), path("a", "new"), path("a", api.Step{Key: "a", At: 1}),
		path("e", "a"), path("e", 0), path("a", 0, 0), path("a", 0, "a"), path("a", 0, -1), path("a", 1, 0), path("a", 1, ""), path("a", 3, 0), path("a", 3, "a"), path("a", -1, 0),
		path("c\n", "a"), path("c\n", 0), path("b", "a", "a", "a"), path("b", "b", "a"), path("b", "a", "a", 0), path("d", 0), path("d", ""), path("d", "a", "a"),
		path(api.Step{Key: "b", At: 1}, "a"), path("b", api.Step{Key: "a", At: -1}, "a"), path(0, 0), path("a", "a", "a"),
		slices.Repeat(path(0), 5000), slices.Repeat(path("a"), 5000),
	}
	for _, p := range nowhere {
		for kind := api.PatchSet; kind <= api.PatchInsert; kind++ {
			wantNotApplied(t, x, api.ErrNone, api.Patch{Kind: kind, Path: p, Value: num(1).Value})
		}
	}
	// Indexes one behind the last are for what comes in alone, and new keys for what is set.
	for _, p := range []api.Patch{
		put(null, "a", 3), put(null, "a", 1, "c", 0), put(null, "a", 2, 1, 1), gone("a", 3), gone("a", 1, "c", 0),
		gone("e"), gone("A"), gone("d", "a"), gone("b", "b"),
		insertion(null, "a"), insertion(null, "new"), insertion(null, "d", "a"), insertion(null, "b", "a", "a"), insertion(null, "a", "a"),
	} {
		wantNotApplied(t, x, api.ErrNone, p)
	}
	for _, plain := range []api.Tree{null, yes, num(1), text("a")} {
		for _, steps := range [][]api.Step{nil, path(0), path("a"), path("")} {
			for kind := api.PatchSet; kind <= api.PatchInsert; kind++ {
				wantNotApplied(t, plain, api.ErrNone, api.Patch{Kind: kind, Path: steps})
			}
		}
	}
	wantNotApplied(t, list(), api.ErrNone, put(null, 0))
	wantNotApplied(t, list(), api.ErrNone, gone(0))
	wantNotApplied(t, list(), api.ErrNone, insertion(null, 1))
	wantNotApplied(t, list(), api.ErrNone, insertion(null, -1))
	wantNotApplied(t, list(), api.ErrNone, insertion(null, ""), insertion(null, api.Step{Key: "a"}))
}

// J3: ErrRange: Kind, or Value, is none, or a key is too long; also where there is no such place.
func TestApplyRange(t *testing.T) {
	x := tree(t, book)
	places := [][]api.Step{path("a"), path("new"), path("a", 0), path("a", 3), nil, path("e", "e"), path(-1)}
	for _, p := range places {
		for _, kind := range []int{0, -1, 4, 100, math.MinInt, math.MaxInt} {
			wantNotApplied(t, x, api.ErrRange, api.Patch{Kind: kind, Path: p, Value: num(1).Value})
		}
		for kind := api.PatchSet; kind <= api.PatchInsert; kind++ {
			for _, v := range noValues {
				wantNotApplied(t, x, api.ErrRange, api.Patch{Kind: kind, Path: p, Value: v})
			}
		}
	}
	long := longKey + "k"
	for _, p := range [][]api.Step{
		path(long), path("a", long), path(long, "a"), path(long, 0), path(0, long), path("b", long, "a"), path("e", 0, long, 0),
		path(api.Step{Key: long, At: 1}), path(strings.Repeat("\u00e9", 11)), path(strings.Repeat("k", 5000)),
	} {
		for kind := api.PatchSet; kind <= api.PatchInsert; kind++ {
			wantNotApplied(t, x, api.ErrRange, api.Patch{Kind: kind, Path: p, Value: num(1).Value})
		}
	}
	wantNotApplied(t, x, api.ErrNone, gone(longKey))
	wantNotApplied(t, x, api.ErrNone, gone(longKey, 0))
	wantApplied(t, `{}`, `{"`+strings.Repeat(`\c3\a9`, 10)+`":null}`, put(null, strings.Repeat("\u00e9", 10)))
}

// J3: what is wrong with the first patch that has a fault is told, whatever those behind it have.
func TestApplyFirstFault(t *testing.T) {
	x := tree(t, book)
	fine, range_, none := put(null, "a"), put(api.Tree{Value: api.Value{Kind: api.Count}}, "a"), gone("e")
	wantNotApplied(t, x, api.OK, fine)
	wantNotApplied(t, x, api.ErrRange, fine, range_)
	wantNotApplied(t, x, api.ErrNone, fine, none)
	wantNotApplied(t, x, api.ErrRange, range_, none)
	wantNotApplied(t, x, api.ErrNone, none, range_)
	wantNotApplied(t, x, api.ErrNone, none, fine)
	wantNotApplied(t, x, api.ErrRange, fine, range_, fine)
	full, more := row(400), insertion(null, 0)
	wantNotApplied(t, full, api.ErrFull, more, range_)
	wantNotApplied(t, full, api.ErrFull, more, none)
	wantNotApplied(t, full, api.ErrFull, more, gone(0))
	wantNotApplied(t, full, api.ErrRange, range_, more)
	wantNotApplied(t, full, api.ErrNone, none, more)
	wantNotApplied(t, full, api.OK, gone(0), more)
	wantNotApplied(t, full, api.ErrRange, insertion(api.Tree{Value: api.Value{Kind: api.Count}}, 0))
	wantNotApplied(t, full, api.ErrNone, insertion(null, 400))
}

// J3: ErrFull: there would be more than MaxList trees.
func TestApplyFull(t *testing.T) {
	almost, full := row(399), row(400)
	wantNotApplied(t, almost, api.OK, insertion(null, 398))
	wantNotApplied(t, almost, api.ErrFull, insertion(null, 0), insertion(null, 0))
	wantNotApplied(t, almost, api.OK, insertion(null, 0), gone(5), insertion(list(), 7))
	for _, at := range []int{0, 200, 399} {
		wantNotApplied(t, full, api.ErrFull, insertion(null, at))
		wantNotApplied(t, full, api.ErrFull, insertion(list(), at))
	}
	wantNotApplied(t, full, api.OK, put(list(), 398), gone(0), put(mapOf(""), 0))
	wantNotApplied(t, full, api.ErrFull, put(mapOf(""), 0), put(null, 0, "a"))
	wantNotApplied(t, full, api.OK, put(mapOf(""), 0), gone(1), put(null, 0, "a"))

	deep := nest(398, mapOf("b", null))
	at := slices.Repeat([]any{0}, 398)
	wantNotApplied(t, deep, api.OK, put(num(1), append(at, "b")...))
	wantNotApplied(t, deep, api.ErrFull, put(num(1), append(at, "a")...))
	wantNotApplied(t, deep, api.OK, gone(append(at, "b")...), put(num(1), append(at, "a")...))
	wantNotApplied(t, deep, api.OK, put(list(), 0), insertion(null, 0))

	// A tree that is put in the place of many leaves room for as many, but one.
	wide := list(row(399))
	wantNotApplied(t, wide, api.ErrFull, insertion(null, 1))
	patches := append([]api.Patch{put(null, 0)}, slices.Repeat([]api.Patch{insertion(null, 1)}, 398)...)
	wantNotApplied(t, wide, api.OK, patches...)
	wantNotApplied(t, wide, api.ErrFull, append(patches, insertion(null, 1))...)
	patches[0] = gone(0)
	patches[1] = insertion(null, 0)
	wantNotApplied(t, wide, api.OK, append(patches, insertion(null, 1))...)
	wantNotApplied(t, wide, api.ErrFull, append(patches, insertion(null, 1), insertion(null, 1))...)
}
