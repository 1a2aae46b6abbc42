package mark

import (
	"cmp"
	"fmt"
	"math/rand"
	"slices"
	"testing"

	"commonbook/api"
	"commonbook/change"
	"commonbook/dag"
	"commonbook/doc"
)

// told is an op beside its id.
type told struct {
	api.Op
	id api.Id
}

// place is the element that an op is of.
func (o told) place() api.Id {
	if o.Insert {
		return o.id
	}
	return o.Elem
}

func (o told) says() bool { return o.Kind == api.Put || o.Kind == api.Make }

func opsOf(l []api.Change) (out []told) {
	for _, c := range l {
		for i, a := range change.Ids(c) {
			out = append(out, told{c.Ops[i], a})
		}
	}
	return out
}

// falling gives the ids of some ops.
func falling(ops []told, which func(told) bool) (l []api.Id) {
	for _, o := range ops {
		if which(o) {
			l = append(l, o.id)
		}
	}
	slices.SortFunc(l, func(a, b api.Id) int { return cmp.Or(cmp.Compare(b.Num, a.Num), cmp.Compare(b.Actor, a.Actor)) })
	return l
}

func isList(o told) bool { return o.Kind == api.Make && o.Value.Kind == api.List }

// rowByWords tells how a list stands by the words of chapter 7, looking at all ops each time.
func rowByWords(ops []told, obj, behind api.Id) (row []thing) {
	for _, a := range falling(ops, func(o told) bool { return o.Insert && o.Obj == obj && o.Elem == behind }) {
		x := thing{elem: a}
		for _, b := range falling(ops, func(o told) bool { return o.says() && o.Obj == obj && o.place() == a && !isOver(ops, o.id) }) {
			x.values = append(x.values, valueOf(ops, b))
		}
		row = append(append(row, x), rowByWords(ops, obj, a)...)
	}
	return row
}

func isOver(ops []told, a api.Id) bool {
	return slices.ContainsFunc(ops, func(o told) bool { return o.Kind != api.Inc && slices.Contains(o.Preds, a) })
}

func valueOf(ops []told, a api.Id) (v api.Value) {
	for _, o := range ops {
		switch {
		case o.id == a && o.Kind == api.Make:
			v = object(o.Value.Kind, a)
		case o.id == a:
			v = o.Value
		case o.Kind == api.Inc && slices.Contains(o.Preds, a):
			// The Count stands ahead of what is added to it.
			v.Num += o.Value.Num
		}
	}
	return v
}

// writer writes changes at random, each behind what its own book has.
type writer struct {
	*rand.Rand
	actor int
	book  *dag.Book
}

// some gives a few ids at random, rising.
func (w writer) some(falling []api.Id) (l []api.Id) {
	for _, a := range slices.Backward(falling) {
		if len(l) < api.MaxDeps && w.Intn(4) > 0 {
			l = append(l, a)
		}
	}
	return l
}

// op is one that fits behind ops.
func (w writer) op(ops []told) api.Op {
	values := []api.Value{{}, truth(1), number(w.Int()), text("t"), count(w.Int()), count(-3)}
	op := api.Op{Kind: api.Put, Value: values[w.Intn(len(values))]}
	if w.Intn(5) == 0 {
		op.Kind, op.Value = api.Make, api.Value{Kind: api.Map + w.Intn(2)}
	}
	lists := falling(ops, isList)
	if len(lists) == 0 || w.Intn(12) == 0 {
		op.Kind, op.Key, op.Value = api.Make, "l", api.Value{Kind: api.List}
		return op
	}
	// The first one most of the time, so that there is one with much in it.
	op.Obj = lists[len(lists)-1]
	if w.Intn(3) == 0 {
		op.Obj = lists[w.Intn(len(lists))]
	}
	elements := append(falling(ops, func(o told) bool { return o.Insert && o.Obj == op.Obj }), root)
	op.Elem = elements[w.Intn(len(elements))]
	if op.Elem == root || w.Intn(5) < 2 {
		op.Insert = true
		return op
	}
	return w.lean(op, ops)
}

// lean gives an op on an element Preds, and perhaps another kind.
func (w writer) lean(op api.Op, ops []told) api.Op {
	said := func(o told) bool { return o.says() && o.place() == op.Elem }
	op.Preds = w.some(falling(ops, said))
	counts := w.some(falling(ops, func(o told) bool { return said(o) && o.Value.Kind == api.Count }))
	switch {
	case len(counts) > 0 && w.Intn(2) == 0:
		op.Kind, op.Preds, op.Value = api.Inc, counts, number(w.Int()-w.Int())
	case len(op.Preds) > 0 && w.Intn(3) > 0:
		op.Kind, op.Value = api.Del, api.Value{}
	}
	return op
}

func (w writer) write(t *testing.T) {
	t.Helper()
	known := w.book.All()
	c := next(known, w.actor)
	c.Deps = w.book.Heads()
	for range 1 + w.Intn(9) {
		c.Ops = append(c.Ops, w.op(opsOf(append(slices.Clone(known), c))))
	}
	must(t, w.book.Take(c))
}

func (w writer) hear(t *testing.T, o writer) {
	t.Helper()
	for _, c := range o.book.All() {
		must(t, w.book.Take(c))
	}
}

// written is a book that three hands wrote at random.
func written(t *testing.T, seed int) []api.Change {
	t.Helper()
	r := rand.New(rand.NewSource(int64(seed)))
	var hands []writer
	for actor := 1; actor <= 3; actor++ {
		hands = append(hands, writer{r, actor, dag.New()})
	}
	hands[0].write(t)
	hands[1].hear(t, hands[0])
	hands[2].hear(t, hands[0])
	for range 3 + r.Intn(12) {
		w := hands[r.Intn(3)]
		w.write(t)
		if r.Intn(3) == 0 {
			w.hear(t, hands[r.Intn(3)])
		}
	}
	hands[0].hear(t, hands[1])
	hands[0].hear(t, hands[2])
	return hands[0].book.All()
}

// M1: whatever was written, at each time, of each list.
func TestRandom(t *testing.T) {
	many, away, several := 0, 0, 0
	for seed := range 120 {
		l := written(t, seed)
		ops := opsOf(l)
		r := rand.New(rand.NewSource(int64(seed)))
		for _, obj := range falling(ops, isList) {
			row := rowByWords(ops, obj, root)
			what := fmt.Sprint("seed ", seed)
			wantMarks(t, what, l, obj, row)
			for range len(row) {
				wantSpanOf(t, what, l, obj, row, r.Intn(len(row)+1), r.Intn(len(row)+1))
			}
			for _, x := range row {
				many++
				away += max(0, 1-len(x.values))
				several += max(0, min(1, len(x.values)-1))
			}
			if t.Failed() {
				t.FailNow()
			}
		}
	}
	if many < 1000 || away < 200 || several < 100 {
		t.Errorf("too few elements: %d, %d of them gone, %d with several values", many, away, several)
	}
}

// behindAll is a hand that has all changes.
func behindAll(t *testing.T, l []api.Change) *doc.Doc {
	t.Helper()
	d := hand(t, 9)
	for _, c := range l {
		must(t, d.Take(c))
	}
	return d
}

// M1: whatever was written, and wherever a hand puts something in, or takes it away: each mark moves just as far as it must.
func TestRandomMoves(t *testing.T) {
	for seed := range 40 {
		l := written(t, seed)
		r := rand.New(rand.NewSource(int64(seed)))
		obj := falling(opsOf(l), isList)
		of := obj[len(obj)-1]
		row := rowByWords(opsOf(l), of, root)
		d := behindAll(t, l)
		many, err := d.Len(of)
		must(t, err)
		at := r.Intn(many + 1)
		must(t, d.Insert(of, at, text("in")))
		more := all(t, d)
		d = behindAll(t, l)
		away := r.Intn(many + 1)
		if away < many {
			must(t, d.Remove(of, away))
		}
		less := all(t, d)
		for _, x := range append(row, thing{}) {
			was, err := Where(l, of, x.elem)
			must(t, err)
			in, out := was, was
			if at <= was {
				in++
			}
			if away < was {
				out--
			}
			wantWhere(t, fmt.Sprint("seed ", seed, ", one came in at ", at), more, of, x.elem, in)
			wantWhere(t, fmt.Sprint("seed ", seed, ", one went at ", away), less, of, x.elem, out)
		}
	}
}
