package state

import (
	"bytes"
	"math/rand"
	"reflect"
	"slices"
	"strings"
	"testing"

	"commonbook/api"
	"commonbook/change"
	"commonbook/id"
	"commonbook/value"
)

// told is an op beside its id.
type told struct {
	api.Op
	id api.Id
}

func (o told) says() bool { return o.Kind == api.Put || o.Kind == api.Make }

func (o told) element() api.Id {
	if o.Insert {
		return o.id
	}
	return o.Elem
}

func opsOf(l []api.Change) (out []told) {
	for _, c := range l {
		for i, a := range change.Ids(c) {
			out = append(out, told{c.Ops[i], a})
		}
	}
	return out
}

// slow tells what comes of ops by the words of the chapter, looking at all of them each time.
type slow []told

func (s slow) isOver(a api.Id) bool {
	return slices.ContainsFunc(s, func(o told) bool { return o.Kind != api.Inc && slices.Contains(o.Preds, a) })
}

func (s slow) valueOf(o told) api.Value {
	v := o.Value
	if o.Kind == api.Make {
		v.Obj = o.id
	}
	for _, i := range s {
		if v.Kind == api.Count && i.Kind == api.Inc && slices.Contains(i.Preds, o.id) {
			v.Num += i.Value.Num
		}
	}
	return v
}

func (s slow) place(obj api.Id, key string, elem api.Id) Place {
	p := Place{Obj: obj, Key: key, Elem: elem}
	for _, a := range s.idsOf(func(o told) bool {
		return o.says() && o.Obj == obj && o.Key == key && o.element() == elem && !s.isOver(o.id)
	}) {
		p.Ids = append(p.Ids, a)
		p.All = append(p.All, s.valueOf(s[slices.IndexFunc(s, func(o told) bool { return o.id == a })]))
	}
	return p
}

// idsOf gives those of some ops, falling.
func (s slow) idsOf(which func(o told) bool) (l []api.Id) {
	for _, o := range s {
		if which(o) {
			l = append(l, o.id)
		}
	}
	slices.SortFunc(l, func(a, b api.Id) int {
		if id.Less(a, b) {
			return 1
		}
		return -1
	})
	return l
}

func (s slow) elements(list, behind api.Id) (l []api.Id) {
	for _, a := range s.idsOf(func(o told) bool { return o.Insert && o.Obj == list && o.Elem == behind }) {
		l = append(append(l, a), s.elements(list, a)...)
	}
	return l
}

func (s slow) keys(obj api.Id) (l []string) {
	for _, o := range s {
		if o.Obj == obj && o.Key != "" && !slices.Contains(l, o.Key) {
			l = append(l, o.Key)
		}
	}
	slices.SortFunc(l, func(a, b string) int { return bytes.Compare([]byte(a), []byte(b)) })
	return l
}

// placesOf an object: both loops, of which one finds nothing.
func (s slow) placesOf(obj api.Id) (l []Place) {
	for _, k := range s.keys(obj) {
		l = append(l, s.place(obj, k, root))
	}
	for _, a := range s.elements(obj, root) {
		l = append(l, s.place(obj, "", a))
	}
	return slices.DeleteFunc(l, func(p Place) bool { return len(p.Ids) == 0 })
}

func (s slow) places() (l []Place) {
	made := s.idsOf(func(o told) bool { return o.Kind == api.Make })
	for _, obj := range slices.Backward(append(made, root)) {
		l = append(l, s.placesOf(obj)...)
	}
	return l
}

func (s slow) text(v api.Value) string {
	if v.Kind != api.Map && v.Kind != api.List {
		return value.Show(v)
	}
	var parts []string
	for _, p := range s.placesOf(v.Obj) {
		part := s.text(p.All[0])
		if v.Kind == api.Map {
			part = value.Quote(p.Key) + ":" + part
		}
		parts = append(parts, part)
	}
	if v.Kind == api.Map {
		return "{" + strings.Join(parts, ",") + "}"
	}
	return "[" + strings.Join(parts, ",") + "]"
}

// hands write changes at random, each knowing of some of those ahead.
type hands struct {
	*rand.Rand
	l []api.Change
}

// known gives what is behind some changes picked at random, and behind the last one of an actor.
func (h hands) known(actor int) (l []api.Change, deps []api.Ref) {
	last := map[int]int{}
	for _, c := range slices.Backward(h.l) {
		if c.Actor == actor || h.Intn(3) == 0 || last[c.Actor] >= c.Seq {
			last[c.Actor] = max(last[c.Actor], c.Seq)
			for _, r := range c.Deps {
				last[r.Actor] = max(last[r.Actor], r.Seq)
			}
		}
	}
	for a := 1; a <= 9; a++ {
		if last[a] > 0 {
			deps = append(deps, api.Ref{Actor: a, Seq: last[a]})
		}
	}
	for _, c := range h.l {
		if last[c.Actor] >= c.Seq {
			l = append(l, c)
		}
	}
	return l, deps
}

// some gives a few at random, in their order.
func (h hands) some(l []api.Id) (out []api.Id) {
	for _, a := range l {
		if len(out) < api.MaxDeps && h.Intn(4) > 0 {
			out = append(out, a)
		}
	}
	return out
}

func (h hands) value() api.Value {
	all := []api.Value{null(), truth(1), number(h.Intn(99)), text("t"), count(h.Int()), count(-h.Int()), count(1)}
	return all[h.Intn(len(all))]
}

// op is one that fits behind all that is known.
func (h hands) op(s slow) api.Op {
	op := api.Op{Kind: api.Put, Value: h.value()}
	makes := append(s.idsOf(func(o told) bool { return o.Kind == api.Make }), root)
	op.Obj = makes[h.Intn(len(makes))]
	isList := slices.ContainsFunc(s, func(o told) bool { return o.id == op.Obj && o.Value.Kind == api.List })
	if h.Intn(4) == 0 {
		op.Kind, op.Value = api.Make, api.Value{Kind: api.List - h.Intn(3)/2}
	}
	if !isList {
		op.Key = []string{"a", "\"", "\xff"}[h.Intn(3)]
		return h.behind(s, op)
	}
	elements := append(s.idsOf(func(o told) bool { return o.Insert && o.Obj == op.Obj }), root)
	op.Elem = elements[h.Intn(len(elements))]
	if op.Elem == root || h.Intn(2) == 0 {
		op.Insert = true
		return op
	}
	return h.behind(s, op)
}

// behind gives an op Preds, and perhaps another kind.
func (h hands) behind(s slow, op api.Op) api.Op {
	of := func(o told) bool {
		return o.says() && o.Obj == op.Obj && o.Key == op.Key && o.element() == op.Elem
	}
	preds := s.idsOf(of)
	slices.Reverse(preds)
	counts := s.idsOf(func(o told) bool { return of(o) && o.Value.Kind == api.Count })
	slices.Reverse(counts)
	op.Preds = h.some(preds)
	switch some := h.some(counts); {
	case len(some) > 0 && h.Intn(2) == 0:
		op.Kind, op.Preds, op.Value = api.Inc, some, number(h.Int()-h.Int())
	case len(op.Preds) > 0 && h.Intn(4) == 0:
		op.Kind, op.Value = api.Del, null()
	}
	return op
}

func (h *hands) write() {
	actor := h.Intn(4) + 1
	known, deps := h.known(actor)
	c := api.Change{Actor: actor, Seq: 1, Start: 1, Deps: deps}
	for _, k := range known {
		c.Start = max(c.Start, k.Start+len(k.Ops))
		if k.Actor == actor {
			c.Seq = max(c.Seq, k.Seq+1)
		}
	}
	c.Start += h.Intn(2)
	for range h.Intn(9) {
		c.Ops = append(c.Ops, h.op(opsOf(append(slices.Clone(known), c))))
	}
	h.l = append(h.l, c)
}

// mixed gives the changes in another order in which each stands behind those it hangs on.
func (h hands) mixed() (out []api.Change) {
	there := map[api.Ref]bool{}
	rest := slices.Clone(h.l)
	for len(rest) > 0 {
		i := h.Intn(len(rest))
		if slices.ContainsFunc(rest[i].Deps, func(r api.Ref) bool { return !there[r] }) {
			continue
		}
		there[api.Ref{Actor: rest[i].Actor, Seq: rest[i].Seq}] = true
		out = append(out, rest[i])
		rest = slices.Delete(rest, i, i+1)
	}
	return out
}

// S1, S2, S3: whatever was written, and in whatever order it came.
func TestRandom(t *testing.T) {
	for seed := range 300 {
		h := hands{Rand: rand.New(rand.NewSource(int64(seed)))}
		for range h.Intn(20) {
			h.write()
		}
		s := slow(opsOf(h.l))
		want, wantText := s.places(), s.text(api.Value{Kind: api.Map})
		lists := s.idsOf(func(o told) bool { return o.Kind == api.Make && o.Value.Kind == api.List })
		for range 3 {
			l := h.mixed()
			_, got, err := Of(l)
			if !reflect.DeepEqual(got, want) || err != nil {
				t.Fatalf("seed %d: Of %v: got %v, %v, want %v", seed, l, got, err, want)
			}
			if got, err := Text(l); got != wantText || err != nil {
				t.Fatalf("seed %d: Text of %v: got %q, %v, want %q", seed, l, got, err, wantText)
			}
			for _, list := range lists {
				wantElements(t, "at random", l, list, s.elements(list, root))
			}
		}
	}
}
