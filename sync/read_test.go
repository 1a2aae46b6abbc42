package sync

import (
	"bytes"
	"math"
	"math/rand"
	"reflect"
	"slices"
	"testing"

	"commonbook/api"
	"commonbook/bloom"
	numbers "commonbook/bytes"
	"commonbook/change"
	"commonbook/dag"
)

// messages of many kinds: of empty books and full ones, of each turn, with changes and with needs.
func messages(t *testing.T) (l [][]byte) {
	t.Helper()
	l = append(l, say(t, New(), dag.New()), say(t, New(), bookOf(t, ladder(3)...)))
	a, b := sideOf(t, append(ladder(4), plainChange(8, 1, 9, 7, 1))...), sideOf(t, plainChange(7, 1, 3), plainChange(3, 1, 5))
	for m := a.say(t); m != nil; m = a.say(t) {
		l = append(l, m)
		b.hear(t, m)
		a, b = b, a
	}
	rng := rand.New(rand.NewSource(5))
	x := New()
	hear(t, x, dag.New(), l[0])
	l = append(l, say(t, x, bookOf(t, hands(t, rng, 3, 6)...)))
	return l
}

// unmoved sees that bytes are none, and that neither a book nor a Talk is changed by them.
func unmoved(t *testing.T, m []byte) {
	t.Helper()
	got, err := Read(m)
	wantFile(t, "Read", err)
	if !reflect.DeepEqual(got, Message{}) {
		t.Errorf("Read: got %+v beside an error", got)
	}
	b := bookOf(t, ladder(2)...)
	x := New()
	hear(t, x, b, write(Message{Filter: filterOf(nil)}))
	before, kept, twin := look(b), *x, slices.Clone(m)
	wantFile(t, "Hear", x.Hear(b, m))
	if look(b) != before || !reflect.DeepEqual(*x, kept) || !slices.Equal(m, twin) {
		t.Errorf("Hear of what is none changed something: %s, was %s; %+v, was %+v", look(b), before, *x, kept)
	}
}

func TestNoBytesAreNoMessage(t *testing.T) {
	unmoved(t, nil)
	unmoved(t, []byte{})
	// What lies behind the length is not read.
	unmoved(t, say(t, New(), dag.New())[:0])
}

func TestEachBeginningOfAMessageIsNone(t *testing.T) {
	for _, m := range messages(t) {
		for i := range m {
			unmoved(t, m[:i])
			unmoved(t, slices.Clip(slices.Clone(m[:i])))
		}
	}
}

func TestMessageWithBytesBehindItIsNone(t *testing.T) {
	for _, m := range messages(t) {
		for n := range 256 {
			unmoved(t, append(slices.Clone(m), byte(n)))
		}
		unmoved(t, slices.Concat(m, m))
		unmoved(t, slices.Concat([]byte{0}, m))
	}
}

func TestMessageWithOneByteChangedIsNone(t *testing.T) {
	for _, m := range messages(t) {
		for i := range m {
			old := m[i]
			for n := range 256 {
				m[i] = byte(n)
				if m[i] == old {
					continue
				}
				if _, err := Read(m); err == nil {
					t.Fatalf("byte %d of %v: read with %d in its place", i, m, n)
				}
			}
			m[i] = old ^ byte(1<<(i%8))
			unmoved(t, m)
			m[i] = old
		}
		read(t, m)
	}
}

func TestGarbledMessagesAreNone(t *testing.T) {
	rng := rand.New(rand.NewSource(6))
	l := messages(t)
	for range 3000 {
		m := l[rng.Intn(len(l))]
		other := l[rng.Intn(len(l))]
		g := slices.Concat(m[:rng.Intn(len(m))], other[rng.Intn(len(other)):])
		if rng.Intn(2) == 0 {
			g = garbled(rng, garbled(rng, m))
		}
		isMessage := func(m []byte) bool { return bytes.Equal(m, g) }
		if !slices.ContainsFunc(l, isMessage) {
			unmoved(t, g)
		}
	}
}

func TestOtherBytesAreNoMessage(t *testing.T) {
	rng := rand.New(rand.NewSource(7))
	for n := range 300 {
		g := make([]byte, n)
		unmoved(t, g)
		rng.Read(g)
		unmoved(t, g)
	}
	for _, c := range ladder(3) {
		b, err := change.Encode(c)
		if err != nil {
			t.Fatal(err)
		}
		unmoved(t, b)
	}
	unmoved(t, bytes.Repeat([]byte{255}, 1<<20))
	unmoved(t, append([]byte{255, 255, 255, 255, 7}, make([]byte, 1<<20)...))
}

// The sum behind them is right, so that it is the numbers that are told.
func TestNumbersThatAreNoneAreRefused(t *testing.T) {
	huge := []byte{255, 255, 255, 255, 255, 255, 255, 255, 255, 1}
	empty := []byte{0, 0, 0, 0, 0, 1, 0, 0}
	if _, err := Read(summed(empty)); err != nil {
		t.Fatalf("the bytes of an empty book's message: %v", err)
	}
	for i := range empty {
		for _, n := range [][]byte{huge, {128, 0}, {128}, {2}, {128, 1}, {255, 255, 3}} {
			unmoved(t, summed(slices.Concat(empty[:i], n, empty[i+1:])))
		}
		unmoved(t, summed(empty[:i]))
	}
	unmoved(t, summed(append(slices.Clone(empty), 0)))
}

// summed puts the right sum behind bytes.
func summed(b []byte) []byte { return slices.Concat(b, numbers.Put(sum(b))) }

// sound is a message that may be said: of a ladder of four rungs, to a side that has (5, 1), with a change that waits.
func sound() Message {
	return Message{
		Heads:   refs(2, 2),
		Knows:   true,
		Known:   refs(5, 1),
		Need:    refs(5, 1, 6, 1, 6, 2),
		Filter:  filterOf(ladder(4)),
		Changes: ladder(4),
	}
}

// full is a message of a book that has all it may have.
func full() Message {
	l := chain(1, api.MaxChanges)
	return Message{Heads: refs(1, api.MaxChanges), Knows: true, Known: refs(1, 4, 5, 1), Need: refs(5, 1), Filter: filterOf(l), Changes: l[100:]}
}

// nearly full: there is room for one change that waits.
func nearlyFull() Message {
	l := chain(1, api.MaxChanges-1)
	m := Message{Heads: refs(1, api.MaxChanges-1), Knows: true, Known: refs(98, 1), Filter: filterOf(l)}
	for actor := range api.MaxDeps {
		m.Need = append(m.Need, api.Ref{Actor: actor + 2, Seq: 7})
	}
	return m
}

func content() Message {
	return Message{Heads: refs(2, 2), Knows: true, Known: refs(2, 2), Content: true, Filter: filterOf(ladder(4))}
}

func TestSoundMessagesAreRead(t *testing.T) {
	for i, m := range []Message{
		sound(), full(), nearlyFull(), content(),
		{Filter: []byte{0}},
		{Knows: true, Filter: []byte{0}},
		{Knows: true, Content: true, Filter: []byte{0}},
		{Need: refs(1, 1, 1, 2, 99, api.MaxNum), Filter: []byte{0}},
		{Knows: true, Known: refs(1, 60, 99, 60), Need: refs(1, 60), Filter: []byte{0}},
	} {
		got, err := Read(write(m))
		if err != nil || inShort(got) != inShort(m) || !slices.Equal(got.Filter, m.Filter) {
			t.Errorf("message %d, %+v: got %+v, %v", i, m, got, err)
		}
	}
}

// What is wrong stands in a message that is written as it should be.
func TestMessagesThatNoSideMaySayAreNone(t *testing.T) {
	wrong := func(what string, m Message, spoil func(*Message)) {
		t.Helper()
		if _, err := Read(write(m)); err != nil {
			t.Fatalf("%s: the message is none before it is spoilt: %v", what, err)
		}
		spoil(&m)
		if got, err := Read(write(m)); err == nil {
			t.Errorf("%s: got %+v", what, got)
		}
		unmoved(t, write(m))
	}
	for _, r := range []api.Ref{{}, {Actor: 0, Seq: 1}, {Actor: 100, Seq: 1}, {Actor: 9, Seq: 0}, {Actor: 9, Seq: api.MaxNum + 1}, {Actor: 9, Seq: -1}, {Actor: math.MaxInt, Seq: 1}} {
		wrong("a head that is none", sound(), func(m *Message) { m.Heads = append(m.Heads, r) })
		wrong("a known head that is none", sound(), func(m *Message) { m.Known = append(m.Known, r) })
		wrong("a need that is none", sound(), func(m *Message) { m.Need = append(m.Need, r) })
		wrong("a need that is none, alone", sound(), func(m *Message) { m.Need = []api.Ref{r} })
	}
	wrong("heads of which the book has not all", sound(), func(m *Message) { m.Heads = refs(2, 3) })
	wrong("a head that is not the last", sound(), func(m *Message) { m.Heads = refs(2, 1) })
	wrong("a head that is not the last, alone", sound(), func(m *Message) { m.Heads, m.Changes = refs(2, 1), m.Changes[3:] })
	wrong("a head on which another one hangs", sound(), func(m *Message) { m.Heads = refs(1, 2, 2, 2) })
	wrong("heads in another order", sound(), func(m *Message) { m.Heads, m.Changes = refs(2, 2, 1, 2), nil })
	wrong("a head twice", sound(), func(m *Message) { m.Heads = refs(2, 2, 2, 2) })
	wrong("no heads of a book that has something", sound(), func(m *Message) { m.Heads, m.Changes = nil, nil })
	wrong("heads of an empty book", Message{Filter: []byte{0}}, func(m *Message) { m.Heads = refs(1, 1) })
	wrong("more heads than changes", sound(), func(m *Message) { m.Heads = refs(1, 3, 2, 2) })

	wrong("known heads in another order", sound(), func(m *Message) { m.Known = refs(6, 3, 5, 1) })
	wrong("known heads of one actor", sound(), func(m *Message) { m.Known = refs(5, 1, 5, 2) })
	wrong("known heads of too great a book", sound(), func(m *Message) { m.Known = refs(5, 1, 6, api.MaxChanges) })
	wrong("known, and not", Message{Filter: []byte{0}}, func(m *Message) { m.Known = refs(5, 1) })
	wrong("content, and nothing heard", Message{Filter: []byte{0}}, func(m *Message) { m.Content = true })
	wrong("changes, and nothing heard", sound(), func(m *Message) { m.Knows, m.Known = false, nil })

	wrong("content with other heads", content(), func(m *Message) { m.Known = refs(1, 2) })
	wrong("content with no heads known", content(), func(m *Message) { m.Known = nil })
	wrong("content and in need", content(), func(m *Message) { m.Need = refs(6, 1) })
	wrong("content and in need of what is known", sound(), func(m *Message) { m.Content = true })

	wrong("needs in another order", sound(), func(m *Message) { m.Need = refs(6, 1, 5, 1) })
	wrong("needs of one actor in another order", sound(), func(m *Message) { m.Need = refs(6, 2, 6, 1) })
	wrong("a need twice", sound(), func(m *Message) { m.Need = refs(6, 1, 6, 1) })
	wrong("a need that is a head", sound(), func(m *Message) { m.Need = refs(2, 2) })
	wrong("a need behind a head", sound(), func(m *Message) { m.Need = refs(2, 1) })
	wrong("a need behind a head, and another one", sound(), func(m *Message) { m.Need = refs(1, 9, 2, 1) })
	wrong("a need that is among the changes", sound(), func(m *Message) { m.Need = refs(1, 2) })
	wrong("a need on which changes hang", sound(), func(m *Message) { m.Changes, m.Need = ladder(4)[2:3], refs(2, 1) })
	wrong("a need for which nothing can wait", full(), func(m *Message) { m.Need = refs(5, 1, 6, 1) })
	wrong("a known head that can not wait", full(), func(m *Message) { m.Need = nil })
	wrong("more needs than one change has Deps", nearlyFull(), func(m *Message) { m.Need = append(m.Need, refs(50, 1)...) })
	wrong("more known heads than can wait", nearlyFull(), func(m *Message) { m.Known = refs(97, 1, 98, 1) })
	wrong("more needs than may be", sound(), func(m *Message) {
		m.Need = nil
		for seq := range mostNeeded + 1 {
			m.Need = append(m.Need, api.Ref{Actor: 9, Seq: seq + 1})
		}
	})

	wrong("no filter", sound(), func(m *Message) { m.Filter = nil })
	wrong("no filter of an empty book", Message{Filter: []byte{0}}, func(m *Message) { m.Filter = nil })
	wrong("a filter of one more byte", content(), func(m *Message) { m.Filter = filterIn(refsOf(ladder(4)), 9) })
	wrong("a filter of one byte less", content(), func(m *Message) { m.Filter = filterIn(refsOf(ladder(4)), 7) })
	wrong("a filter of an empty book of two bytes", Message{Filter: []byte{0}}, func(m *Message) { m.Filter = []byte{0, 0} })
	wrong("a filter of another size", sound(), func(m *Message) { m.Filter = append(m.Filter, 0) })
	wrong("a filter of no size", content(), func(m *Message) { m.Filter = append(m.Filter, 0) })
	wrong("a filter of an empty book with a bit", Message{Filter: []byte{0}}, func(m *Message) { m.Filter = []byte{4} })
	wrong("a filter of more than may be", full(), func(m *Message) { m.Filter = append(m.Filter, 0, 0) })
	wrong("a filter of fewer than there are", sound(), func(m *Message) { m.Filter = slices.Repeat([]byte{255}, 6) })
	wrong("a filter with all bits", sound(), func(m *Message) { m.Filter = slices.Repeat([]byte{255}, 8) })
	wrong("a filter without bits", content(), func(m *Message) { m.Filter = make([]byte, 8) })
	for k := range 64 {
		wrong("a filter with one bit changed", sound(), func(m *Message) { m.Filter[k/8] ^= 1 << (k % 8) })
	}

	wrong("a change twice", sound(), func(m *Message) { m.Changes = append(m.Changes, m.Changes[3]) })
	wrong("a change of which something is left out, twice", sound(), func(m *Message) { m.Changes = append(m.Changes[3:], m.Changes[3]) })
	wrong("two changes of one ref", sound(), func(m *Message) {
		m.Changes = append(m.Changes, m.Changes[3])
		m.Changes[4].Start++
	})
	wrong("changes in another order", sound(), func(m *Message) { slices.Reverse(m.Changes) })
	wrong("changes ahead of what they hang on, which hangs on what is left out", sound(), func(m *Message) {
		m.Changes = []api.Change{m.Changes[3], m.Changes[2]}
	})
	wrong("a change that hangs on itself", sound(), func(m *Message) { m.Changes = []api.Change{plainChange(1, 2, 3, 1, 2)} })
	wrong("a change that fits not", sound(), func(m *Message) { m.Changes[1].Start = 1 })
	wrong("a change that is none", sound(), func(m *Message) { m.Changes[1].Start = 0 })
	wrong("a change beyond the heads", sound(), func(m *Message) { m.Changes = append(m.Changes, plainChange(2, 3, 7, 2, 2)) })
	wrong("a change that hangs on a head", sound(), func(m *Message) { m.Changes = append(m.Changes[:2], plainChange(1, 2, 9, 2, 2)) })
	wrong("a change that hangs on what is not there", sound(), func(m *Message) { m.Changes = []api.Change{plainChange(1, 2, 3, 9, 3)} })
	wrong("a change of a great Seq", sound(), func(m *Message) {
		m.Changes = []api.Change{plainChange(1, api.MaxNum, 3, 1, api.MaxNum-1)}
	})
	wrong("a change that hangs on great Seqs", sound(), func(m *Message) {
		m.Changes = []api.Change{plainChange(1, 2, 3, 3, api.MaxNum, 4, api.MaxNum, 5, api.MaxNum)}
	})
	wrong("a change that is not in the filter", sound(), func(m *Message) { m.Changes = []api.Change{plainChange(9, 1, 1)} })
}

// filterIn gives a filter of so many bytes.
func filterIn(l []api.Ref, size int) []byte {
	filter, _ := bloom.Make(l, 8*size)
	return filter
}

// A change of which nothing is told has three bits in the filter at most.
func TestFilterHasNoMoreThanItsChangesPutIn(t *testing.T) {
	for more := range 6 {
		m := Message{Heads: refs(1, 1), Filter: filterIn(refs(1, 1), 4)}
		left := more
		for k := 0; left > 0; k++ {
			if m.Filter[k/8]&(1<<(k%8)) == 0 {
				m.Filter[k/8] |= 1 << (k % 8)
				left--
			}
		}
		if _, err := Read(write(m)); (err == nil) != (more <= 3) {
			t.Errorf("with %d bits more: got %v", more, err)
		}
	}
}

// Where all that changes hang on is among them, they stand as the book has them: the first by Ref of those that may be next.
func TestChangesStandInTheBooksOrder(t *testing.T) {
	l := apart(3)
	m := Message{Heads: refs(1, 1, 2, 1, 3, 1), Knows: true, Filter: filterOf(l), Changes: l}
	read(t, write(m))
	m.Changes = []api.Change{l[1], l[0], l[2]}
	unmoved(t, write(m))
}

func TestMessageOfAsManyNeedsAsCanBe(t *testing.T) {
	b := dag.New()
	var want []api.Ref
	for i := range api.MaxChanges {
		c := plainChange(99, i+1, 1)
		for k := range api.MaxDeps {
			c.Deps = append(c.Deps, api.Ref{Actor: k + 1, Seq: i + 1})
		}
		if err := b.Take(c); err != nil {
			t.Fatal(err)
		}
		want = append(want, c.Deps...)
	}
	slices.SortFunc(want, func(a, b api.Ref) int { return 1000*(a.Actor-b.Actor) + a.Seq - b.Seq })
	wantRefs(t, "Need", read(t, say(t, New(), b)).Need, want)
	x := New()
	hear(t, x, b, write(Message{Heads: refs(50, 1), Filter: filterOf([]api.Change{plainChange(50, 1, 1)})}))
	wantRefs(t, "Need, with one that is known", read(t, say(t, x, b)).Need, append(want, refs(50, 1)...))
}

func TestReadTellsTheSameEachTime(t *testing.T) {
	for _, m := range messages(t) {
		a, b := read(t, m), read(t, m)
		if !reflect.DeepEqual(a, b) || !slices.Equal(write(a), m) {
			t.Errorf("Read of %v: got %+v, then %+v", m, a, b)
		}
	}
}
