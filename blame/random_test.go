package blame

import (
	"cmp"
	"fmt"
	"math/rand"
	"slices"
	"testing"

	"commonbook/api"
	"commonbook/dag"
)

// said is an op with the change that has it, and its id.
type said struct {
	api.Op
	id api.Id
	by api.Ref
}

func (o said) makes() bool { return o.Kind == api.Put || o.Kind == api.Make }

func saidOf(l []api.Change) (out []said) {
	for _, c := range l {
		for i, op := range c.Ops {
			out = append(out, said{op, oid(c.Start+i, c.Actor), ref(c.Actor, c.Seq)})
		}
	}
	return out
}

// valuesOf gives those that some ops have made and that are not over, by the words of chapter 7, by their ids, falling.
func valuesOf(all []said, which func(said) bool) (l []said) {
	for _, o := range all {
		isOver := slices.ContainsFunc(all, func(p said) bool { return p.Kind != api.Inc && slices.Contains(p.Preds, o.id) })
		if o.makes() && !isOver && which(o) {
			l = append(l, o)
		}
	}
	slices.SortFunc(l, func(a, b said) int {
		return cmp.Or(cmp.Compare(b.id.Num, a.id.Num), cmp.Compare(b.id.Actor, a.id.Actor))
	})
	return l
}

func whoByWords(all []said, obj api.Id, key string) (l []api.Ref) {
	for _, o := range valuesOf(all, func(o said) bool { return o.Obj == obj && o.Key == key }) {
		l = append(l, o.by)
	}
	return l
}

func sharesByWords(l []api.Change) (out []Share) {
	all := saidOf(l)
	for actor := 1; actor <= api.MaxActor; actor++ {
		s := Share{Actor: actor, Values: len(valuesOf(all, func(o said) bool { return o.by.Actor == actor }))}
		for _, c := range l {
			if c.Actor == actor {
				s.Changes++
				s.Ops += len(c.Ops)
			}
		}
		if s.Changes > 0 {
			out = append(out, s)
		}
	}
	return out
}

// writer writes changes at random, each behind what its own book has.
type writer struct {
	*rand.Rand
	actor int
	book  *dag.Book
}

func keys() []string { return []string{"a", "k", "\xff"} }

// op is one that fits behind all that is known.
func (w writer) op(all []said) api.Op {
	values := []api.Value{{}, truth(1), number(w.Int()), text("t"), count(w.Int()), count(-3)}
	op := api.Op{Kind: api.Put, Value: values[w.Intn(len(values))]}
	if w.Intn(5) == 0 {
		op.Kind, op.Value = api.Make, api.Value{Kind: api.Map + w.Intn(2)}
	}
	objs := []said{{}}
	for _, o := range all {
		if o.Kind == api.Make {
			objs = append(objs, o)
		}
	}
	in := objs[w.Intn(len(objs))]
	op.Obj = in.id
	if in.Value.Kind != api.List {
		op.Key = keys()[w.Intn(len(keys()))]
		return w.lean(op, all)
	}
	elements := []api.Id{root}
	for _, o := range all {
		if o.Insert && o.Obj == in.id {
			elements = append(elements, o.id)
		}
	}
	op.Elem = elements[w.Intn(len(elements))]
	if op.Elem == root || w.Intn(2) == 0 {
		op.Insert = true
		return op
	}
	return w.lean(op, all)
}

// lean gives an op Preds, and perhaps another kind.
func (w writer) lean(op api.Op, all []said) api.Op {
	var counts []api.Id
	for _, o := range all {
		ofKey := o.Key == op.Key && o.Elem == op.Elem && !o.Insert
		if !o.makes() || o.Obj != op.Obj || !ofKey && o.id != op.Elem || w.Intn(3) == 0 || len(op.Preds) == api.MaxDeps {
			continue
		}
		op.Preds = append(op.Preds, o.id)
		if o.Value.Kind == api.Count {
			counts = append(counts, o.id)
		}
	}
	byId := func(a, b api.Id) int { return cmp.Or(cmp.Compare(a.Num, b.Num), cmp.Compare(a.Actor, b.Actor)) }
	slices.SortFunc(op.Preds, byId)
	slices.SortFunc(counts, byId)
	switch {
	case len(counts) > 0 && w.Intn(2) == 0:
		op.Kind, op.Preds, op.Value = api.Inc, counts, number(w.Int()-w.Int())
	case len(op.Preds) > 0 && w.Intn(3) == 0:
		op.Kind, op.Value = api.Del, api.Value{}
	}
	return op
}

func (w writer) write(t *testing.T) {
	t.Helper()
	known := w.book.All()
	c := with(w.actor, 1, 1, w.book.Heads())
	for _, k := range known {
		c.Start = max(c.Start, k.Start+len(k.Ops))
		if k.Actor == w.actor {
			c.Seq++
		}
	}
	c.Start += w.Intn(3)
	for range w.Intn(9) {
		c.Ops = append(c.Ops, w.op(saidOf(append(slices.Clone(known), c))))
	}
	must(t, w.book.Take(c))
}

func (w writer) hear(t *testing.T, o writer) {
	t.Helper()
	for _, c := range o.book.All() {
		must(t, w.book.Take(c))
	}
}

// written is a book that three hands wrote at random.
func written(t *testing.T, seed int) []api.Change {
	t.Helper()
	r := rand.New(rand.NewSource(int64(seed)))
	var hands []writer
	for _, actor := range []int{9, 1, 40} {
		hands = append(hands, writer{r, actor, dag.New()})
	}
	for range 3 + r.Intn(12) {
		w := hands[r.Intn(3)]
		w.write(t)
		if r.Intn(2) == 0 {
			w.hear(t, hands[r.Intn(3)])
		}
	}
	hands[0].hear(t, hands[1])
	hands[0].hear(t, hands[2])
	return hands[0].book.All()
}

// mixed gives changes in another order in which each stands behind those it hangs on.
func mixed(r *rand.Rand, l []api.Change) (out []api.Change) {
	book, rest := dag.New(), slices.Clone(l)
	for len(rest) > 0 {
		i := r.Intn(len(rest))
		if slices.ContainsFunc(rest[i].Deps, func(d api.Ref) bool { return !book.Has(d) }) {
			continue
		}
		if book.Take(rest[i]) == nil {
			out = append(out, rest[i])
			rest = slices.Delete(rest, i, i+1)
		}
	}
	return out
}

// A1: whatever was written, of each object and key, of each op, and of all actors, in whatever order it came.
func TestRandom(t *testing.T) {
	several, gone := 0, 0
	for seed := range 150 {
		l := written(t, seed)
		all := saidOf(l)
		l = mixed(rand.New(rand.NewSource(int64(seed))), l)
		what := fmt.Sprint("seed ", seed)
		wantShares(t, what, l, sharesByWords(l)...)
		for _, o := range append(all, said{Op: api.Op{Kind: api.Make}}) {
			if o.by != (api.Ref{}) {
				wantMade(t, what, l, o.id, o.by)
			}
			if o.Kind != api.Make {
				wantNobody(t, what, l, o.id, "a", api.ErrNone)
				continue
			}
			for _, key := range append(keys(), "", "none") {
				if o.Value.Kind == api.List {
					wantNobody(t, what, l, o.id, key, api.ErrKind)
					continue
				}
				want := whoByWords(all, o.id, key)
				several += min(1, len(want)/2)
				gone += max(0, 1-len(want))
				wantWho(t, what, l, o.id, key, want...)
			}
		}
		if t.Failed() {
			t.FailNow()
		}
	}
	if several < 100 || gone < 100 {
		t.Errorf("too few keys: %d with several values, %d with none", several, gone)
	}
}

// A1: Made: in books at random, an id that no op has.
func TestRandomNotMade(t *testing.T) {
	for seed := range 30 {
		l := written(t, seed)
		has := map[api.Id]api.Ref{}
		for _, o := range saidOf(l) {
			has[o.id] = o.by
		}
		for _, actor := range []int{0, 1, 2, 9, 40, 99} {
			for num := range 60 {
				n := oid(num, actor)
				if want, ok := has[n]; ok {
					wantMade(t, fmt.Sprint("seed ", seed), l, n, want)
				} else {
					wantNotMade(t, fmt.Sprint("seed ", seed), l, n, api.ErrNone)
				}
			}
		}
	}
}
