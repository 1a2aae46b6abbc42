package past

import (
	"fmt"
	"math/rand"
	"reflect"
	"slices"
	"testing"

	"commonbook/api"
	"commonbook/doc"
	"commonbook/json"
	"commonbook/state"
)

// knownBehind gives what is behind heads, of changes that each stand behind their Deps.
func knownBehind(l []api.Change, heads []api.Ref) (out []api.Change) {
	want := slices.Clone(heads)
	for _, c := range slices.Backward(l) {
		if slices.Contains(want, refOf(c)) {
			want = append(want, c.Deps...)
			out = append(out, c)
		}
	}
	slices.Reverse(out)
	return out
}

// scribble adds some ops to a hand, at objects that it has made or heard of.
func scribble(r *rand.Rand, d *doc.Doc, objs []api.Id) []api.Id {
	values := []api.Value{{}, truth(1), number(r.Intn(4)), text("t"), count(r.Intn(4))}
	for range 1 + r.Intn(8) {
		obj, v := objs[r.Intn(len(objs))], values[r.Intn(len(values))]
		key := string(rune('a' + r.Intn(4)))
		many, _ := d.Len(obj)
		at, kind := r.Intn(many+1), api.Map+r.Intn(2)
		var id api.Id
		var err error
		switch r.Intn(9) {
		case 0, 1:
			id, err = d.Make(obj, key, kind)
		case 2, 3:
			id, err = d.InsertNew(obj, at, kind)
		case 4:
			_, _ = d.Del(obj, key), d.Remove(obj, at)
		case 5:
			_, _ = d.Add(obj, key, 3), d.AddAt(obj, at, 3)
		case 6:
			_ = d.Set(obj, at, v)
		default:
			_, _ = d.Put(obj, key, v), d.Insert(obj, at, v)
		}
		if err == nil && id != root {
			objs = append(objs, id)
		}
	}
	return objs
}

// scribbled is a book that three hands wrote at random.
func scribbled(t *testing.T, r *rand.Rand) []api.Change {
	hands := []*doc.Doc{hand(t, 1), hand(t, 2), hand(t, 3)}
	objs := []api.Id{root}
	for range 6 + r.Intn(10) {
		d := hands[r.Intn(3)]
		objs = scribble(r, d, objs)
		_, _ = d.Commit()
		if r.Intn(2) == 0 {
			merge(t, d, hands[r.Intn(3)])
		}
	}
	merge(t, hands[0], hands[1])
	merge(t, hands[0], hands[2])
	return hands[0].All()
}

func someHeads(r *rand.Rand, l []api.Change) (heads []api.Ref) {
	for range r.Intn(4) {
		heads = append(heads, refOf(l[r.Intn(len(l))]))
	}
	return heads
}

// mixed gives changes in another order in which each stands behind its Deps.
func mixed(r *rand.Rand, l []api.Change) (out []api.Change) {
	rest := slices.Clone(l)
	for len(rest) > 0 {
		i := r.Intn(len(rest))
		if isInOrder(append(slices.Clone(out), rest[i])) {
			out = append(out, rest[i])
			rest = slices.Delete(rest, i, i+1)
		}
	}
	return out
}

// P1: whatever was written: what was known is read again, and what has changed makes of the old the new.
func TestRandomBooks(t *testing.T) {
	many := 0
	for seed := range 60 {
		r := rand.New(rand.NewSource(int64(seed)))
		l := scribbled(t, r)
		for range 12 {
			what := fmt.Sprint("seed ", seed)
			given, from, to := mixed(r, l), someHeads(r, l), someHeads(r, l)
			known := knownBehind(l, from)
			wantAt(t, what, given, from, refsOf(bookOf(t, known).All()))
			s, err := state.Text(known)
			must(t, err)
			wantText(t, what, given, from, s)
			wantTree(t, what, known, tree(t, s))
			many += len(wantDiff(t, what, given, from, to))
			wantDiff(t, what, given, to, from)
			if t.Failed() {
				t.FailNow()
			}
		}
	}
	if many < 1000 {
		t.Errorf("too few patches: %d", many)
	}
}

var someKeys = []string{"a", "b", "c", "d", "e"}

// grown is a tree of up to so many trees, at random.
func grown(r *rand.Rand, kind, most int) api.Tree {
	x := leaf(api.Value{Kind: kind})
	keys := slices.Clone(someKeys)
	for most--; most > 0 && len(keys) > 0; {
		part := 1 + r.Intn(most)
		most -= part
		kid := leaf(number(r.Intn(3)))
		if part > 1 || r.Intn(4) == 0 {
			kid = grown(r, api.Map+r.Intn(2), part)
		}
		if kind == api.Map {
			i := r.Intn(min(2, len(keys)))
			x.Keys, keys = append(x.Keys, keys[i]), keys[i+1:]
		}
		x.Kids = append(x.Kids, kid)
	}
	return x
}

// bent is a tree with some of what is in it gone, new, or other.
func bent(r *rand.Rand, x api.Tree) api.Tree {
	y := leaf(x.Value)
	add := func(key string, kid api.Tree) {
		if x.Value.Kind == api.Map {
			y.Keys = append(y.Keys, key)
		}
		y.Kids = append(y.Kids, kid)
	}
	for i, kid := range x.Kids {
		key := ""
		if x.Value.Kind == api.Map {
			key = x.Keys[i]
		}
		switch r.Intn(12) {
		case 0:
		case 1:
			add(key, grown(r, api.Map+r.Intn(2), r.Intn(4)))
		case 2:
			add(key, leaf(text("new")))
		case 3:
			add(key, kid)
			if x.Value.Kind == api.List {
				add("", leaf(number(r.Intn(3))))
			}
		case 4:
			add(key+"k", kid)
		default:
			add(key, bent(r, kid))
		}
	}
	return y
}

// P1: trees at random, and what is near to them.
func TestRandomTrees(t *testing.T) {
	for seed := range 400 {
		r := rand.New(rand.NewSource(int64(seed)))
		most := 1 + r.Intn(60)
		if seed%40 == 0 {
			most = 400
		}
		x := grown(r, api.Map, most)
		y := bent(r, x)
		for size(y) > api.MaxList {
			y = bent(r, x)
		}
		z := bent(r, y)
		for size(z) > api.MaxList {
			z = bent(r, y)
		}
		wantPairs(t, x, y, z)
		if t.Failed() {
			t.Fatalf("seed %d", seed)
		}
	}
}

// roomy is l, with wrong things behind the length of each list.
func roomy(l []api.Change) []api.Change {
	out := []api.Change{}
	for _, c := range l {
		c.Deps = append(slices.Clone(c.Deps), refs(77, 77, 77, 78)...)[:len(c.Deps)]
		ops := []api.Op{}
		for _, op := range c.Ops {
			op.Preds = append(slices.Clone(op.Preds), api.Id{Num: 77, Actor: 77})[:len(op.Preds)]
			ops = append(ops, op)
		}
		c.Ops = append(ops, api.Op{Kind: 77})[:len(ops)]
		out = append(out, c)
	}
	return append(out, api.Change{Actor: 77})[:len(l)]
}

// whole shows all that stands in lists, up to their capacity.
func whole(l []api.Change, heads ...[]api.Ref) string {
	s := ""
	for _, c := range l[:cap(l)] {
		s += fmt.Sprint(c.Actor, c.Seq, c.Start, c.Deps[:cap(c.Deps)], len(c.Deps), len(c.Ops))
		for _, op := range c.Ops[:cap(c.Ops)] {
			s += fmt.Sprint(op, op.Preds[:cap(op.Preds)])
		}
	}
	for _, h := range heads {
		s += fmt.Sprint(h[:cap(h)])
	}
	return s
}

// note adds the memory of a list, up to its capacity.
func note[T any](seen map[any]int, l []T) {
	for i := range l[:cap(l)] {
		seen[&l[:cap(l)][i]]++
	}
}

func noteChanges(seen map[any]int, l []api.Change) {
	note(seen, l)
	for _, c := range l {
		note(seen, c.Deps)
		note(seen, c.Ops)
		for _, op := range c.Ops {
			note(seen, op.Preds)
		}
	}
}

func noteTree(seen map[any]int, x api.Tree) {
	note(seen, x.Keys)
	note(seen, x.Kids)
	for _, kid := range x.Kids {
		noteTree(seen, kid)
	}
}

// P2: what is handed in is neither changed nor shared, nor what lies behind a list's length read; what is answered shares nothing.
func TestMemory(t *testing.T) {
	for seed := range 40 {
		r := rand.New(rand.NewSource(int64(seed)))
		l := roomy(scribbled(t, r))
		from := append(someHeads(r, l), refs(77, 77)...)
		to := append(someHeads(r, l), refs(77, 77)...)
		from, to = from[:len(from)-1], to[:len(to)-1]
		before := whole(l, from, to)
		seen := map[any]int{}
		noteChanges(seen, l)
		note(seen, from)
		note(seen, to)

		known, err := At(l, from)
		must(t, err)
		noteChanges(seen, known)
		x, err := Tree(l)
		must(t, err)
		noteTree(seen, x)
		_, err = Text(l, to)
		must(t, err)
		p, err := Diff(l, from, to)
		must(t, err)
		note(seen, p)
		for _, one := range p {
			note(seen, one.Path)
		}
		if whole(l, from, to) != before {
			t.Fatal("what was handed in was changed")
		}
		for place, times := range seen {
			if times > 1 {
				t.Fatalf("seed %d: memory is shared: %T", seed, place)
			}
		}
	}
}

// P2: whoever writes into what was answered changes no later answer.
func TestNotKept(t *testing.T) {
	l := forked(t)
	heads := refs(1, 3, 3, 1)
	known, err := At(l, heads)
	must(t, err)
	for i := range known {
		for j := range known[i].Ops {
			known[i].Ops[j] = api.Op{}
		}
		clear(known[i].Deps)
	}
	clear(known)
	p, err := Diff(l, nil, heads)
	must(t, err)
	for i := range p {
		clear(p[i].Path)
	}
	x, err := Tree(l)
	must(t, err)
	clear(x.Keys)
	clear(x.Kids)
	if !reflect.DeepEqual(l, forked(t)) {
		t.Fatal("what was handed in was changed")
	}
	wantAt(t, "again", l, heads, refs(1, 1, 1, 2, 2, 1, 1, 3, 3, 1))
	wantTree(t, "again", l, tree(t, `{"k":"x","l":[4,5,6],"m":{}}`))
	wantDiff(t, "again", l, nil, heads)
}

// P1: Text is what Print writes of Tree of At.
func TestTextIsPrinted(t *testing.T) {
	for seed := range 30 {
		r := rand.New(rand.NewSource(int64(seed)))
		l := scribbled(t, r)
		for _, c := range l {
			heads := append(someHeads(r, l), refOf(c))
			s, err := Text(l, heads)
			must(t, err)
			want, err := json.Print(behind(t, l, heads))
			if err != nil || s != want {
				t.Fatalf("seed %d: got %s, want %s, %v", seed, s, want, err)
			}
		}
	}
}
