package json

import (
	"fmt"
	"maps"
	"math/rand"
	"slices"
	"strings"
	"testing"

	"commonbook/api"
	"commonbook/plain"
)

var someKeys = []string{"a", "b", "c\n", "d", "\xff", `"`, longKey}

// grown is a tree of up to so many trees, at random.
func grown(r *rand.Rand, most int) api.Tree {
	leaves := []api.Tree{null, no, yes, num(0), num(1), num(-12), text(""), text("x"), text("\"\\\n\xff"), list(), mapOf("")}
	t := leaves[r.Intn(len(leaves))]
	if most > 1 {
		t = []api.Tree{list(), mapOf("")}[r.Intn(2)]
	}
	keys := slices.Sorted(slices.Values(someKeys))
	for most--; most > 0 && len(keys) > 0; {
		part := 1 + r.Intn(most)
		most -= part
		t.Kids = append(t.Kids, grown(r, part))
		if t.Value.Kind == api.Map {
			i := r.Intn(min(2, len(keys)))
			t.Keys = append(t.Keys, keys[i])
			keys = keys[i+1:]
		}
	}
	return t
}

// node is a tree, and the way to it.
type node struct {
	t    api.Tree
	path []api.Step
}

// nodes are all trees in t, as they are printed.
func nodes(t api.Tree) []node {
	l := []node{{t: t}}
	for i, kid := range t.Kids {
		s := api.Step{At: i}
		if len(t.Keys) > 0 {
			s = api.Step{Key: t.Keys[i]}
		}
		for _, n := range nodes(kid) {
			l = append(l, node{n.t, slices.Concat([]api.Step{s}, n.path)})
		}
	}
	return l
}

// J1, J2, J3: what is printed of a tree is read again; each tree in it is got by its path, and found by its value.
func TestRandomTrees(t *testing.T) {
	r := rand.New(rand.NewSource(9))
	for range 500 {
		x := grown(r, 1+r.Intn(60))
		s, err := Print(x)
		if got := tree(t, s); !same(got, x) || err != nil {
			t.Fatalf("Parse of Print of %v: got %v, %v", x, got, err)
		}
		want := map[api.Value][][]api.Step{}
		for _, n := range nodes(x) {
			if got, err := Get(x, n.path); !same(got, n.t) || err != nil {
				t.Fatalf("Get of %v in %s: got %v, %v, want %v", n.path, s, got, err, n.t)
			}
			want[n.t.Value] = append(want[n.t.Value], n.path)
		}
		for v, paths := range want {
			wantPaths(t, x, v, paths)
		}
	}
}

// J1: texts that are near to what is printed.
func TestRandomTexts(t *testing.T) {
	r := rand.New(rand.NewSource(10))
	pieces := []string{"{", "}", "[", "]", `"`, `""`, `"a"`, ":", ",", "0", "-", "12", "null", "tru", "false", `\`, " ", "\xff", "\n", "[[", "]]"}
	for range 20_000 {
		s, _ := Print(grown(r, 1+r.Intn(20)))
		for range 1 + r.Intn(3) {
			from := r.Intn(len(s) + 1)
			to := min(len(s), from+r.Intn(4))
			s = s[:from] + pieces[r.Intn(len(pieces))] + s[to:]
		}
		wantJudged(t, s)
	}
}

// J1: texts with about as many trees as may be.
func TestRandomFull(t *testing.T) {
	r := rand.New(rand.NewSource(11))
	for range 300 {
		var l []string
		for many := 395 + r.Intn(10); many > 0; {
			part := min(many, 1+r.Intn(100))
			s, _ := Print(grown(r, part))
			l, many = append(l, s), many-part
		}
		s := "[" + strings.Join(l, ",") + "]"
		wantJudged(t, s)
		wantJudged(t, s[:len(s)-1])
		wantJudged(t, s[:len(s)-1]+",")
		wantJudged(t, s[:r.Intn(len(s))])
	}
}

// loose is a tree of Go's own maps and lists: a map[string]any, a []any, or an api.Value.
func loose(t api.Tree) any {
	if t.Value.Kind == api.List {
		l := []any{}
		for _, kid := range t.Kids {
			l = append(l, loose(kid))
		}
		return l
	}
	if t.Value.Kind == api.Map {
		m := map[string]any{}
		for i, kid := range t.Kids {
			m[t.Keys[i]] = loose(kid)
		}
		return m
	}
	return t.Value
}

func firm(x any) api.Tree {
	switch x := x.(type) {
	case []any:
		t := list()
		for _, kid := range x {
			t.Kids = append(t.Kids, firm(kid))
		}
		return t
	case map[string]any:
		t := mapOf("")
		for _, key := range slices.Sorted(maps.Keys(x)) {
			t.Keys, t.Kids = append(t.Keys, key), append(t.Kids, firm(x[key]))
		}
		return t
	}
	return api.Tree{Value: x.(api.Value)}
}

// patched is what a patch makes of a loose tree; it panics, if there is no such place.
func patched(x any, p api.Patch) any {
	s, rest := p.Path[0], p
	rest.Path = p.Path[1:]
	if s.Key != "" {
		m := maps.Clone(x.(map[string]any))
		old, ok := m[s.Key]
		switch {
		case s.At != 0 || len(rest.Path) == 0 && p.Kind == api.PatchInsert || !ok && (len(rest.Path) > 0 || p.Kind == api.PatchGone):
			panic("no such key")
		case len(rest.Path) > 0:
			m[s.Key] = patched(old, rest)
		case p.Kind == api.PatchSet:
			m[s.Key] = loose(api.Tree{Value: p.Value})
		default:
			delete(m, s.Key)
		}
		return m
	}
	l := x.([]any)
	if len(rest.Path) > 0 {
		return slices.Concat(l[:s.At], []any{patched(l[s.At], rest)}, l[s.At+1:])
	}
	_ = l[:s.At:len(l)]
	switch p.Kind {
	case api.PatchSet:
		return slices.Concat(l[:s.At], []any{loose(api.Tree{Value: p.Value})}, l[s.At+1:])
	case api.PatchGone:
		return slices.Concat(l[:s.At], l[s.At+1:])
	}
	return slices.Concat(l[:s.At], []any{loose(api.Tree{Value: p.Value})}, l[s.At:])
}

// wanted is what a row of patches makes of a tree, by other means than Apply.
func wanted(t api.Tree, patches []api.Patch) (api.Tree, api.Errno) {
	for _, p := range patches {
		var next any
		ok := func() (ok bool) {
			defer func() { ok = recover() == nil }()
			next = patched(loose(t), p)
			return true
		}()
		if !ok {
			return null, api.ErrNone
		}
		t = firm(next)
		if len(nodes(t)) > 400 {
			return null, api.ErrFull
		}
	}
	return t, api.OK
}

// somePatch is one at a place of t, or near to one.
func somePatch(r *rand.Rand, t api.Tree) api.Patch {
	values := []api.Tree{null, yes, num(5), text("y"), list(), mapOf("")}
	all := nodes(t)
	n := all[r.Intn(len(all))]
	p := api.Patch{Kind: 1 + r.Intn(3), Path: slices.Clone(n.path), Value: values[r.Intn(len(values))].Value}
	switch {
	case r.Intn(2) == 0 && n.t.Value.Kind == api.List:
		p.Path = append(p.Path, api.Step{At: r.Intn(len(n.t.Kids) + 1)})
	case r.Intn(2) == 0 && n.t.Value.Kind == api.Map:
		p.Path = append(p.Path, api.Step{Key: someKeys[r.Intn(len(someKeys))]})
	}
	if len(p.Path) > 0 && r.Intn(20) == 0 {
		s := &p.Path[r.Intn(len(p.Path))]
		*s = []api.Step{{At: -1}, {At: s.At + 1}, {Key: "a"}, {Key: s.Key, At: 1}, {}}[r.Intn(5)]
	}
	return p
}

// J3: Apply does what the same patches do to Go's own maps and lists.
func TestRandomPatches(t *testing.T) {
	r := rand.New(rand.NewSource(12))
	told := map[api.Errno]int{}
	for i := range 4000 {
		x := grown(r, 1+r.Intn(30))
		if i%20 == 0 {
			x = list(grown(r, 390))
			x.Kids = append(x.Kids, make([]api.Tree, 400-len(nodes(x)))...)
		}
		var patches []api.Patch
		want, wantErr := x, api.OK
		for many := r.Intn(12); wantErr == api.OK && len(patches) < many; {
			p := somePatch(r, want)
			patches = append(patches, p)
			want, wantErr = wanted(want, []api.Patch{p})
		}
		got, err := Apply(x, patches)
		if !same(got, want) || plain.Told(err) != wantErr {
			t.Fatalf("Apply of %v to %v: got %v, %v, want %v, %v", patches, x, got, err, want, wantErr)
		}
		if err == nil && Check(got) != nil {
			t.Fatalf("Apply of %v to %v: got %v, which is none", patches, x, got)
		}
		told[wantErr]++
	}
	if told[api.OK] < 1000 || told[api.ErrNone] < 500 || told[api.ErrFull] < 20 {
		t.Errorf("too few of a kind: %v", told)
	}
}

// roomy is t, with wrong things behind the length of each list.
func roomy(t api.Tree) api.Tree {
	kids := []api.Tree{}
	for _, kid := range t.Kids {
		kids = append(kids, roomy(kid))
	}
	kids = append(kids, api.Tree{Value: api.Value{Kind: 77}}, null)
	keys := append(slices.Clone(t.Keys), "", longKey+"k")
	return api.Tree{Value: t.Value, Keys: keys[:len(t.Keys)], Kids: kids[:len(t.Kids)]}
}

// whole shows all that stands in a tree's lists, up to their capacity.
func whole(t api.Tree) string {
	var kids []string
	for _, kid := range t.Kids[:cap(t.Kids)] {
		kids = append(kids, whole(kid))
	}
	return fmt.Sprintf("%v %q %q", t.Value, t.Keys[:cap(t.Keys)], kids)
}

// places are the memory of a tree's lists, up to their capacity.
func places(t api.Tree, seen map[any]int) map[any]int {
	for i := range t.Keys[:cap(t.Keys)] {
		seen[&t.Keys[:cap(t.Keys)][i]]++
	}
	for i := range t.Kids[:cap(t.Kids)] {
		seen[&t.Kids[:cap(t.Kids)][i]]++
	}
	for _, kid := range t.Kids {
		places(kid, seen)
	}
	return seen
}

// wantFresh asks that the lists of an answer share memory neither with each other nor with those of an argument.
func wantFresh(t *testing.T, what string, got, given api.Tree) {
	t.Helper()
	old := places(given, map[any]int{})
	for place, times := range places(got, map[any]int{}) {
		if times > 1 || old[place] > 0 {
			t.Fatalf("%s: memory is shared", what)
		}
	}
}

// P2: what is handed in is neither changed nor shared, nor what lies behind a list's length read; what is answered shares nothing.
func TestMemory(t *testing.T) {
	r := rand.New(rand.NewSource(13))
	twice := mapOf("a b", list(num(1), num(2)), null)
	for i := range 300 {
		x := roomy(grown(r, 1+r.Intn(40)))
		if i%2 == 0 {
			// One list that stands at several places.
			x = roomy(list(twice, twice, x, x))
			x.Kids[1], x.Kids[3] = x.Kids[0], x.Kids[2]
		}
		p := []api.Patch{somePatch(r, x), somePatch(r, x), somePatch(r, x)}
		for k := range p {
			p[k].Path = append(p[k].Path, api.Step{Key: "behind", At: 7})[:len(p[k].Path)]
		}
		before := whole(x) + fmt.Sprint(p)
		all := nodes(x)
		n := all[r.Intn(len(all))]
		got, err := Get(x, n.path)
		if wantFresh(t, "Get", got, x); err != nil || !same(got, n.t) {
			t.Fatalf("Get of %v: got %v, %v", n.path, got, err)
		}
		want, wantErr := wanted(x, p)
		got, err = Apply(x, p)
		if wantFresh(t, "Apply", got, x); plain.Told(err) != wantErr || !same(got, want) {
			t.Fatalf("Apply of %v: got %v, %v, want %v, %v", p, got, err, want, wantErr)
		}
		got, err = Apply(x, nil)
		if wantFresh(t, "Apply of nothing", got, x); err != nil || !same(got, x) {
			t.Fatalf("Apply of nothing: got %v, %v", got, err)
		}
		s, err := Print(x)
		again := tree(t, s)
		if wantFresh(t, "Parse", again, x); err != nil || !same(again, x) || Check(x) != nil {
			t.Fatalf("Parse of Print: got %v, %v", again, err)
		}
		wantFreshPaths(t, x, n.t.Value)
		if whole(x)+fmt.Sprint(p) != before {
			t.Fatal("what was handed in was changed")
		}
	}
}

// wantFreshPaths asks that no two paths share memory.
func wantFreshPaths(t *testing.T, x api.Tree, v api.Value) {
	t.Helper()
	paths, err := Paths(x, v)
	if err != nil || len(paths) == 0 {
		t.Fatalf("Paths of %v: got %v, %v", v, paths, err)
	}
	seen := map[*api.Step]int{}
	for _, p := range paths {
		for i := range p[:cap(p)] {
			seen[&p[:cap(p)][i]]++
		}
	}
	for _, times := range seen {
		if times > 1 {
			t.Fatalf("Paths of %v: memory is shared", v)
		}
	}
}

// P1, P2: calls lean on nothing but what they are given: again, they answer the same.
func TestAgain(t *testing.T) {
	x := tree(t, book)
	p := []api.Patch{put(list(), "d"), gone("a", 0), insertion(num(1), "a", 1)}
	first, _ := Apply(x, p)
	for _, bad := range []string{"", "[", `{"a":`, strings.Repeat("[", 500)} {
		_, _, _ = Parse(bad)
		again, err := Apply(x, p)
		if !same(first, again) || err != nil || !same(x, tree(t, book)) {
			t.Errorf("Apply again: got %v, %v, want %v", again, err, first)
		}
	}
}
