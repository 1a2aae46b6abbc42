package net

import (
	"fmt"
	"math/rand"
	"slices"
	"testing"

	"commonbook/api"
	"commonbook/dag"
	"commonbook/doc"
	"commonbook/plain"
	"commonbook/sync"
)

// model is a net in the plainest way, without a map.
type model struct {
	docs   []*doc.Doc
	talks  [api.MaxNet][api.MaxNet]*sync.Talk
	flying []api.Packet
}

func modelOf(t *testing.T, many int) *model {
	t.Helper()
	m := &model{}
	for i := range many {
		d, err := doc.New(i + 1)
		must(t, err)
		m.docs = append(m.docs, d)
		for k := range many {
			m.talks[i][k] = sync.New()
		}
	}
	return m
}

func (m *model) areTwo(i, k int) bool {
	return i >= 0 && k >= 0 && i < len(m.docs) && k < len(m.docs) && i != k
}

func (m *model) tick(i, k int) api.Errno {
	if !m.areTwo(i, k) {
		return api.ErrRange
	}
	if b := m.talks[i][k].Say(m.docs[i].Book()); b != nil {
		m.flying = append(m.flying, api.Packet{From: i, To: k, Bytes: b})
	}
	return api.OK
}

func (m *model) forget(i, k int) api.Errno {
	if !m.areTwo(i, k) {
		return api.ErrRange
	}
	m.talks[i][k] = sync.New()
	return api.OK
}

// with does something with what flies at a place, which may come to be nothing, one, or two.
func (m *model) with(at int, do func(api.Packet) (stays bool, more []api.Packet)) api.Errno {
	if at < 0 || at >= len(m.flying) {
		return api.ErrRange
	}
	var l, behind []api.Packet
	for i, p := range m.flying {
		if i != at {
			l = append(l, p)
			continue
		}
		stays, more := do(p)
		if stays {
			l = append(l, p)
		}
		behind = more
	}
	m.flying = append(l, behind...)
	return api.OK
}

func (m *model) land(p api.Packet) (bool, []api.Packet) {
	m.docs[p.To].Rollback()
	m.talks[p.To][p.From].Hear(m.docs[p.To].Book(), p.Bytes)
	return false, nil
}

func drop(api.Packet) (bool, []api.Packet) { return false, nil }

func twice(p api.Packet) (bool, []api.Packet) {
	return true, []api.Packet{{From: p.From, To: p.To, Bytes: slices.Clone(p.Bytes)}}
}

func garble(place int, to byte) func(api.Packet) (bool, []api.Packet) {
	return func(p api.Packet) (bool, []api.Packet) {
		many := len(p.Bytes)
		p.Bytes[((place%many)+many)%many] = to
		return true, nil
	}
}

func (m *model) calm() int {
	for _, d := range m.docs {
		d.Rollback()
	}
	for len(m.flying) > 0 {
		m.with(0, m.land)
	}
	for rounds := range 100 {
		said := 0
		for i := range m.docs {
			for k := range m.docs {
				m.tick(i, k)
				said += len(m.flying)
				m.with(0, m.land)
			}
		}
		if said == 0 {
			return rounds
		}
	}
	return 100
}

// scribble adds pending ops to a hand, and to its like in the model.
func scribble(rng *rand.Rand, l ...*doc.Doc) {
	key := string(rune('a' + rng.Intn(4)))
	kind, num, at := rng.Intn(6), rng.Intn(9), rng.Intn(3)
	for _, d := range l {
		list := api.Id{}
		if all, err := d.Get(api.Id{}, "l"); err == nil && len(all) > 0 {
			list = all[0].Obj
		}
		switch kind {
		case 0:
			d.Make(api.Id{}, "l", api.List)
		case 1:
			d.Insert(list, at, api.Value{Kind: api.Text, Text: "some text"})
		case 2:
			d.Del(api.Id{}, key)
		case 3:
			d.Put(api.Id{}, key, api.Value{Kind: api.Count, Num: num})
		case 4:
			d.Add(api.Id{}, key, num)
		default:
			d.Put(api.Id{}, key, api.Value{Kind: api.Number, Num: num})
		}
	}
}

// pair is a net, and what it should be.
type pair struct {
	n       *Net
	m       *model
	garbles bool
}

// step does something with both, and tells what it was and what came of it.
func (p pair) step(rng *rand.Rand) (what string, got, want api.Errno) {
	many := len(p.m.docs)
	i, k := rng.Intn(many+2)-1, rng.Intn(many+2)-1
	at := rng.Intn(p.n.Flying()+2) - 1
	place, to := rng.Intn(400)-200, byte(rng.Intn(256))
	kind := rng.Intn(20)
	what = fmt.Sprint("step ", kind, " ", i, " ", k, " ", at, " ", place, " ", to)
	switch {
	case kind < 7:
		return what, plain.Told(p.n.Tick(i, k)), p.m.tick(i, k)
	case kind < 10:
		return what, plain.Told(p.n.Land(at)), p.m.with(at, p.m.land)
	case kind == 10:
		return what, plain.Told(p.n.Drop(at)), p.m.with(at, drop)
	case kind == 11:
		return what, plain.Told(p.n.Twice(at)), p.m.with(at, twice)
	case kind == 12 && p.garbles:
		return what, plain.Told(p.n.Garble(at, place, to)), p.m.with(at, garble(place, to))
	case kind == 13:
		return what, plain.Told(p.n.Forget(i, k)), p.m.forget(i, k)
	case kind == 14 && rng.Intn(8) == 0:
		return what + " calm", api.Errno(p.n.Calm()), api.Errno(p.m.calm())
	}
	p.atHand(rng, rng.Intn(many), rng.Intn(many))
	return what, api.OK, api.OK
}

// atHand has a hand write, commit or merge.
func (p pair) atHand(rng *rand.Rand, i, k int) {
	mine, its := p.n.docs[i], p.m.docs[i]
	switch rng.Intn(5) {
	case 0:
		mine.Merge(p.n.docs[k])
		its.Merge(p.m.docs[k])
	case 1, 2:
		mine.Commit()
		its.Commit()
	default:
		scribble(rng, mine, its)
	}
}

// check holds a net against the model.
func (p pair) check(t *testing.T, what string) {
	t.Helper()
	if p.n.Flying() != len(p.m.flying) {
		t.Fatalf("%s: %d fly, want %d", what, p.n.Flying(), len(p.m.flying))
	}
	if got, want := fmt.Sprint(p.n.flying), fmt.Sprint(p.m.flying); got != want {
		t.Fatalf("%s: %s flies, want %s", what, got, want)
	}
	for i, want := range p.m.docs {
		if got := hand(t, p.n, i); lookAt(got) != lookAt(want) {
			t.Fatalf("%s: hand %d is %s, want %s", what, i, lookAt(got), lookAt(want))
		}
	}
}

func (p pair) all(t *testing.T) *dag.Book {
	t.Helper()
	all := union(t, p.m.docs...)
	if len(all.All()) > api.MaxChanges {
		t.Fatalf("the test's changes are too many")
	}
	return all
}

func TestWhateverIsDoneOnANet(t *testing.T) {
	for seed := range 300 {
		rng := rand.New(rand.NewSource(int64(seed)))
		many := 1 + seed%api.MaxNet
		p := pair{n: netOf(t, many), m: modelOf(t, many), garbles: seed%3 == 0}
		for range rng.Intn(120) {
			what, got, want := p.step(rng)
			if got != want {
				t.Fatalf("seed %d, %s: got %d, want %d", seed, what, got, want)
			}
			p.check(t, fmt.Sprint("seed ", seed, ", ", what))
		}
		// What was garbled is not heard at all, so that all come together with it, too.
		rounds := wantAll(t, p.n, p.all(t))
		if want := p.m.calm(); rounds != want {
			t.Fatalf("seed %d: Calm of %d rounds, want %d", seed, rounds, want)
		}
		p.check(t, fmt.Sprint("seed ", seed, ", Calm"))
	}
}

// The same calls have the same answers, to the byte.
func TestTheSameCallsAnswerTheSame(t *testing.T) {
	for seed := range 20 {
		var first string
		for again := range 3 {
			rng := rand.New(rand.NewSource(int64(seed)))
			p := pair{n: netOf(t, 5), m: modelOf(t, 5), garbles: true}
			for range 80 {
				p.step(rng)
			}
			told := look(p.n) + fmt.Sprint(p.n.Calm()) + look(p.n)
			if again == 0 {
				first = told
			}
			if told != first {
				t.Fatalf("seed %d: got %s, want %s", seed, told, first)
			}
		}
	}
}
