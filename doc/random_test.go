package doc

import (
	"fmt"
	"math/rand"
	"reflect"
	"slices"
	"strings"
	"testing"

	"commonbook/api"
	"commonbook/change"
	"commonbook/state"
	"commonbook/value"
)

// slow tells of a hand by what chapter 7 says of its changes, with the pending one among them.
type slow struct {
	l      []api.Change
	places []state.Place
	kinds  map[api.Id]int
}

func slowOf(t *testing.T, d *Doc) (s slow) {
	c := api.Change{Actor: d.actor, Seq: 1, Start: 1, Deps: d.Heads(), Ops: slices.Clone(d.pending)}
	s = slow{l: d.All(), kinds: map[api.Id]int{root: api.Map}}
	for _, k := range s.l {
		if k.Actor == d.actor {
			c.Seq++
		}
		for _, a := range change.Ids(k) {
			c.Start = max(c.Start, a.Num+1)
		}
	}
	s.l = append(s.l, c)
	for _, k := range s.l {
		for i, a := range change.Ids(k) {
			if k.Ops[i].Kind == api.Make {
				s.kinds[a] = k.Ops[i].Value.Kind
			}
		}
	}
	_, places, err := state.Of(s.l)
	if err != nil {
		t.Fatalf("what is pending fits not: %v: %+v", err, s.l)
	}
	s.places = places
	return s
}

func (s slow) of(obj api.Id) (l []state.Place) {
	for _, p := range s.places {
		if p.Obj == obj {
			l = append(l, p)
		}
	}
	return l
}

func (s slow) key(obj api.Id, key string) state.Place {
	for _, p := range s.of(obj) {
		if p.Key == key {
			return p
		}
	}
	return state.Place{Obj: obj, Key: key}
}

// ask is a call that adds an op, by numbers and words.
type ask struct {
	what string
	obj  api.Id
	key  string
	at   int
	v    api.Value
}

func (a ask) onKey() bool { return slices.Contains([]string{"Put", "Make", "Del", "Add"}, a.what) }

func (a ask) isInsert() bool { return strings.HasPrefix(a.what, "Insert") }

func (a ask) kind() int {
	switch a.what {
	case "Put", "Insert", "Set":
		return api.Put
	case "Make", "InsertNew":
		return api.Make
	case "Del", "Remove":
		return api.Del
	}
	return api.Inc
}

func (a ask) call(d *Doc) (api.Id, error) {
	switch a.what {
	case "Put":
		return noId(d.Put(a.obj, a.key, a.v))
	case "Make":
		return d.Make(a.obj, a.key, a.v.Kind)
	case "Del":
		return noId(d.Del(a.obj, a.key))
	case "Add":
		return noId(d.Add(a.obj, a.key, a.v.Num))
	case "Insert":
		return noId(d.Insert(a.obj, a.at, a.v))
	case "InsertNew":
		return d.InsertNew(a.obj, a.at, a.v.Kind)
	case "Set":
		return noId(d.Set(a.obj, a.at, a.v))
	case "Remove":
		return noId(d.Remove(a.obj, a.at))
	}
	return noId(d.AddAt(a.obj, a.at, a.v.Num))
}

// place gives the place of a call, and what is wrong with it.
func (s slow) place(a ask) (state.Place, api.Errno) {
	kind, ok := s.kinds[a.obj]
	most := len(s.of(a.obj)) - 1
	if a.isInsert() {
		most++
	}
	told := first(
		fault{!ok, api.ErrNone},
		fault{(kind == api.Map) != a.onKey(), api.ErrKind},
		fault{a.onKey() && a.key == "" || !a.onKey() && (a.at < 0 || a.at > most), api.ErrRange},
		fault{a.onKey() && len(a.key) > api.MaxKey, api.ErrFull},
	)
	switch {
	case told != api.OK:
		return state.Place{}, told
	case a.onKey():
		return s.key(a.obj, a.key), api.OK
	case !a.isInsert():
		return s.of(a.obj)[a.at], api.OK
	case a.at == 0:
		return state.Place{Obj: a.obj}, api.OK
	}
	return state.Place{Obj: a.obj, Elem: s.of(a.obj)[a.at-1].Elem}, api.OK
}

// answer gives the op of a call, or what is wrong with it.
func (s slow) answer(a ask) (api.Op, api.Errno) {
	p, told := s.place(a)
	if told != api.OK {
		return api.Op{}, told
	}
	op := api.Op{Kind: a.kind(), Obj: p.Obj, Key: p.Key, Elem: p.Elem, Insert: a.isInsert()}
	isObject := a.v.Kind == api.Map || a.v.Kind == api.List
	switch op.Kind {
	case api.Put:
		op.Value = a.v
	case api.Make:
		op.Value = api.Value{Kind: a.v.Kind}
	case api.Inc:
		op.Value = num(a.v.Num)
	}
	for i, b := range slices.Backward(p.Ids) {
		if op.Kind != api.Inc || p.All[i].Kind == api.Count {
			op.Preds = append(op.Preds, b)
		}
	}
	return op, first(
		fault{op.Kind == api.Put && (value.Check(a.v) != nil || isObject), api.ErrRange},
		fault{op.Kind == api.Make && !isObject, api.ErrRange},
		fault{op.Kind == api.Del && len(p.Ids) == 0, api.ErrNone},
		fault{op.Kind == api.Inc && len(op.Preds) == 0, api.ErrKind},
		fault{len(s.l[len(s.l)-1].Ops) >= api.MaxOps, api.ErrFull},
	)
}

func randomAsk(r *rand.Rand, s slow) ask {
	whats := []string{"Put", "Make", "Del", "Add", "Insert", "Insert", "InsertNew", "Set", "Remove", "AddAt"}
	keys := []string{"a", "b", "a", "b", "a", "b", "\xff", "", strings.Repeat("k", api.MaxKey+1)}
	a := ask{what: whats[r.Intn(len(whats))], key: keys[r.Intn(len(keys))]}
	var objects []api.Id
	for obj, kind := range s.kinds {
		if r.Intn(9) == 0 || (kind == api.Map) == a.onKey() {
			objects = append(objects, obj)
		}
	}
	slices.SortFunc(objects, func(a, b api.Id) int { return (a.Num-b.Num)*100 + a.Actor - b.Actor })
	a.obj = api.Id{Num: r.Intn(9), Actor: r.Intn(4)}
	if len(objects) > 0 && r.Intn(9) > 0 {
		a.obj = objects[r.Intn(len(objects))]
	}
	a.at = r.Intn(len(s.of(a.obj))+3) - 1
	good := []api.Value{{}, num(r.Intn(99)), text("é"), count(r.Intn(99)), count(r.Int())}
	a.v = good[r.Intn(len(good))]
	if a.kind() == api.Make || r.Intn(9) == 0 {
		a.v = api.Value{Kind: 7 - min(r.Intn(9), 3)}
	}
	return a
}

// wantReads: all reads of a hand are what chapter 7 says.
func wantReads(t *testing.T, what string, d *Doc, s slow) {
	t.Helper()
	text, err := state.Text(s.l)
	must(t, err)
	wantText(t, what, d, text)
	for obj, kind := range s.kinds {
		l := s.of(obj)
		if many, err := d.Len(obj); err != nil || many != len(l) {
			t.Errorf("%s: Len of %v: got %d, %v, want %d", what, obj, many, err, len(l))
		}
		var keys []string
		for at, p := range l {
			got, err := d.At(obj, at)
			if kind == api.Map {
				keys = append(keys, p.Key)
				got, err = d.Get(obj, p.Key)
			}
			if err != nil || !slices.Equal(got, p.All) {
				t.Errorf("%s: values at %v, %q, %d: got %v, %v, want %v", what, obj, p.Key, at, got, err, p.All)
			}
		}
		if got, err := d.Keys(obj); kind == api.Map && (err != nil || !slices.Equal(got, keys)) {
			t.Errorf("%s: Keys of %v: got %q, %v, want %q", what, obj, got, err, keys)
		}
	}
}

// randomOp: H1, a call that adds an op, or does nothing.
func randomOp(t *testing.T, r *rand.Rand, d *Doc) {
	s := slowOf(t, d)
	a := randomAsk(r, s)
	what := fmt.Sprintf("%+v", a)
	want, told := s.answer(a)
	ahead := slices.Clone(d.pending)
	got, err := a.call(d)
	if wantTold(t, what, err, told); told != api.OK {
		wantOps(t, what, d.pending, ahead...)
		return
	}
	wantOps(t, what, d.pending, append(ahead, want)...)
	if next := s.l[len(s.l)-1]; want.Kind == api.Make && got != (api.Id{Num: next.Start + len(next.Ops), Actor: d.actor}) {
		t.Errorf("%s: got id %v", what, got)
	}
}

// randomStep: H2, one of the calls that make up a book.
func randomStep(t *testing.T, r *rand.Rand, d, o *Doc) {
	s := slowOf(t, d)
	isPending := d.Pending() > 0
	switch r.Intn(4) {
	case 0:
		d.Rollback()
		if _, err := d.Commit(); err == nil {
			t.Error("Commit behind Rollback")
		}
	case 1:
		n, err := d.Merge(o)
		wantTold(t, "Merge", err, first(fault{isPending, api.ErrState}))
		if many := len(d.All()) - (len(s.l) - 1); n != many {
			t.Errorf("Merge: got %d, want %d", n, many)
		}
	default:
		_, err := d.Commit()
		wantTold(t, "Commit", err, first(fault{!isPending, api.ErrNone}))
		if c := s.l[len(s.l)-1]; isPending && !slices.ContainsFunc(d.All(), func(k api.Change) bool { return reflect.DeepEqual(k, c) }) {
			t.Errorf("Commit: got %+v, without %+v", d.All(), c)
		}
	}
}

// H1, H2, H3: whatever hands do, each sees what chapter 7 says, and merged all see the same.
func TestRandom(t *testing.T) {
	for seed := range 60 {
		r := rand.New(rand.NewSource(int64(seed)))
		hands := []*Doc{hand(t, 1)}
		made(t)(hands[0].Make(root, "a", api.List))
		commit(t, hands[0])
		hands = append(hands, fork(t, hands[0], 2), fork(t, hands[0], 3))
		for range 150 {
			d := hands[r.Intn(3)]
			if r.Intn(6) == 0 {
				randomStep(t, r, d, hands[r.Intn(3)])
			} else {
				randomOp(t, r, d)
			}
			if r.Intn(4) == 0 {
				wantReads(t, fmt.Sprint("seed ", seed), d, slowOf(t, d))
			}
			if t.Failed() {
				t.Fatalf("seed %d", seed)
			}
		}
		wantOneBook(t, hands)
	}
}

// wantOneBook: merged, all hands have the same.
func wantOneBook(t *testing.T, hands []*Doc) {
	t.Helper()
	for _, d := range hands {
		d.Commit()
	}
	for range 2 {
		for i, d := range hands {
			_, err := d.Merge(hands[(i+1)%len(hands)])
			must(t, err)
		}
	}
	for _, d := range hands[1:] {
		wantText(t, "merged", d, hands[0].Text())
		if !reflect.DeepEqual(d.All(), hands[0].All()) {
			t.Errorf("merged: %v and %v", d.All(), hands[0].All())
		}
	}
}
