package sync

import (
	"fmt"
	"reflect"
	"slices"
	"testing"

	"commonbook/api"
	"commonbook/bloom"
	"commonbook/dag"
)

// say gives what a Talk says, which must be something.
func say(t *testing.T, x *Talk, b *dag.Book) []byte {
	t.Helper()
	m := x.Say(b)
	if len(m) == 0 {
		t.Fatalf("nothing is said of %v", refsOf(b.All()))
	}
	return m
}

func wantQuiet(t *testing.T, what string, x *Talk, b *dag.Book) {
	t.Helper()
	if m := x.Say(b); m != nil {
		t.Errorf("%s: %+v is said, want nothing", what, read(t, m))
	}
}

// inShort tells of a message, but for its filter.
func inShort(m Message) string {
	return fmt.Sprint(m.Heads, m.Knows, m.Known, m.Need, m.Content, refsOf(m.Changes))
}

func wantShort(t *testing.T, what string, m Message, want string) {
	t.Helper()
	if got := inShort(m); got != want {
		t.Errorf("%s: got %s, want %s", what, got, want)
	}
}

func TestNewKnowsNothing(t *testing.T) {
	x, b := New(), bookOf(t, chain(1, 2)...)
	hear(t, x, b, say(t, New(), bookOf(t, apart(3)[2])))
	if New() == x {
		t.Errorf("New gives a Talk that is there already")
	}
	wantShort(t, "a new Talk", read(t, say(t, New(), b)), "[{1 2}] false [] [] false []")
}

func TestFirstMessage(t *testing.T) {
	m := read(t, say(t, New(), dag.New()))
	wantShort(t, "of an empty book", m, "[] false [] [] false []")
	if len(m.Filter) == 0 || slices.Max(m.Filter) > 0 {
		t.Errorf("Filter of an empty book: got %v", m.Filter)
	}
	m = read(t, say(t, New(), bookOf(t, ladder(5)...)))
	wantShort(t, "of a book", m, "[{1 3}] false [] [] false []")
	for _, r := range refs(1, 1, 1, 2, 1, 3, 2, 1, 2, 2) {
		if has, err := bloom.Has(m.Filter, r); !has || err != nil {
			t.Errorf("Filter has not %v: %v", r, err)
		}
	}
	// Nothing is heard of, but what waits misses something all the same.
	b := bookOf(t, append(apart(2), plainChange(4, 2, 7, 3, 1, 4, 1), plainChange(5, 1, 8, 2, 1, 4, 2))...)
	m = read(t, say(t, New(), b))
	wantShort(t, "of a book in which something waits", m, "[{1 1} {2 1}] false [] [{3 1} {4 1}] false []")
}

func TestWhileNothingIsHeardSomethingIsSaid(t *testing.T) {
	x, b := New(), bookOf(t, chain(1, 1)...)
	first := say(t, x, b)
	for range 3 {
		if m := say(t, x, b); !slices.Equal(m, first) {
			t.Errorf("said at first %v, then %v", first, m)
		}
	}
}

func TestEachTurnOfATalk(t *testing.T) {
	a, b := bookOf(t, ladder(4)...), bookOf(t, append(ladder(1), plainChange(3, 1, 2, 1, 1))...)
	x, y := New(), New()
	turns := []struct {
		from, to *Talk
		of, at   *dag.Book
		want     string
	}{
		{x, y, a, b, "[{2 2}] false [] [] false []"},
		{y, x, b, a, "[{3 1}] true [{2 2}] [{2 2}] false [{3 1}]"},
		{x, y, a, b, "[{2 2} {3 1}] true [{3 1}] [] false [{2 1} {1 2} {2 2}]"},
		{y, x, b, a, "[{2 2} {3 1}] true [{2 2} {3 1}] [] false []"},
		{x, y, a, b, "[{2 2} {3 1}] true [{2 2} {3 1}] [] true []"},
	}
	for i, turn := range turns {
		m := say(t, turn.from, turn.of)
		wantShort(t, fmt.Sprint("turn ", i), read(t, m), turn.want)
		filter, err := bloom.Make(refsOf(turn.of.All()), 8*len(read(t, m).Filter))
		if err != nil || !slices.Equal(read(t, m).Filter, filter) {
			t.Errorf("turn %d: Filter %v, want %v", i, read(t, m).Filter, filter)
		}
		hear(t, turn.to, turn.at, m)
	}
	wantQuiet(t, "the one side", y, b)
	wantQuiet(t, "the other side", x, a)
	wantRefs(t, "what both have", refsOf(a.All()), refsOf(b.All()))
}

// contentPair gives two sides that are content and quiet.
func contentPair(t *testing.T, l ...api.Change) (a, b *side) {
	t.Helper()
	a, b = sideOf(t, l...), sideOf(t)
	calm(t, a, b, 100)
	return a, b
}

func TestContentSideAnswersOneThatIsNot(t *testing.T) {
	a, b := contentPair(t, ladder(3)...)
	late := read(t, say(t, New(), a.book))
	b.forget()
	m := say(t, b.talk, b.book)
	wantShort(t, "a new Talk", read(t, m), inShort(late))
	hear(t, a.talk, a.book, m)
	answer := say(t, a.talk, a.book)
	wantShort(t, "to a side that does not know", read(t, answer), "[{1 2}] true [{1 2}] [] false []")
	hear(t, b.talk, b.book, answer)
	answer = say(t, b.talk, b.book)
	wantShort(t, "content, to a side that is not", read(t, answer), "[{1 2}] true [{1 2}] [] true []")
	// It was told once, and no side was heard since.
	wantQuiet(t, "content, and has said so", b.talk, b.book)
	hear(t, a.talk, a.book, answer)
	wantQuiet(t, "content, to a side that is", a.talk, a.book)
	hear(t, a.talk, a.book, answer)
	wantQuiet(t, "content, to a side that is, twice", a.talk, a.book)
}

// One that is not content is answered, also if one that is was heard behind it.
func TestAllThatWasHeardSinceCounts(t *testing.T) {
	a, b := contentPair(t, ladder(3)...)
	knows := Message{Heads: refs(1, 2), Knows: true, Known: refs(1, 2), Filter: filterOf(ladder(3))}
	content := knows
	content.Content = true
	hear(t, a.talk, a.book, write(content))
	wantQuiet(t, "heard of one that is content", a.talk, a.book)
	hear(t, a.talk, a.book, write(knows))
	hear(t, a.talk, a.book, write(content))
	wantShort(t, "heard of both", read(t, say(t, a.talk, a.book)), "[{1 2}] true [{1 2}] [] true []")
	wantQuiet(t, "heard of both, and answered", a.talk, a.book)
	hear(t, b.talk, b.book, write(content))
	wantQuiet(t, "a Talk that heard only of one that is content", b.talk, b.book)
	// A Talk that has said nothing yet counts all that it heard.
	x := New()
	hear(t, x, a.book, write(content))
	wantQuiet(t, "a new Talk that heard only of one that is content", x, a.book)
}

func TestWhoIsNotContentSaysSomething(t *testing.T) {
	filter := filterOf(ladder(3))
	for what, m := range map[string]Message{
		"the other side does not know":       {Heads: refs(1, 2), Filter: filter},
		"the other side knows another thing": {Heads: refs(1, 2), Knows: true, Known: refs(2, 1), Filter: filter},
		"the other side knows of none":       {Heads: refs(1, 2), Knows: true, Filter: filter},
		"the other side has another thing":   {Heads: refs(2, 1), Knows: true, Known: refs(1, 2), Need: refs(1, 2), Filter: filterOf(ladder(2))},
		"the other side has more":            {Heads: refs(1, 2, 3, 1), Knows: true, Known: refs(1, 2), Filter: filterOf(append(ladder(3), plainChange(3, 1, 1)))},
		"the other side has nothing":         {Knows: true, Known: refs(1, 2), Need: refs(1, 2), Filter: filterOf(nil)},
	} {
		x, b := New(), bookOf(t, ladder(3)...)
		hear(t, x, b, write(m))
		for range 3 {
			if said := read(t, say(t, x, b)); said.Content {
				t.Errorf("%s: content is said: %+v", what, said)
			}
		}
	}
}

func TestWhoMissesSomethingIsNotContent(t *testing.T) {
	a, b := contentPair(t, ladder(3)...)
	a.book.Take(plainChange(5, 1, 9, 4, 1))
	want := "[{1 2}] true [{1 2}] [{4 1}] false []"
	m := say(t, a.talk, a.book)
	wantShort(t, "of a change that waits", read(t, m), want)
	wantShort(t, "of a change that waits, again", read(t, say(t, a.talk, a.book)), want)
	hear(t, b.talk, b.book, m)
	// The other side has the same heads and knows that, and nothing of what is needed.
	wantShort(t, "the answer", read(t, say(t, b.talk, b.book)), "[{1 2}] true [{1 2}] [] true []")
}

func TestChangeThatIsTakenLaterIsSaid(t *testing.T) {
	a, b := contentPair(t, ladder(3)...)
	b.book.Take(plainChange(4, 1, 4, 1, 2))
	m := say(t, b.talk, b.book)
	wantShort(t, "of a change that came later", read(t, m), "[{4 1}] true [{1 2}] [] false [{4 1}]")
	wantQuiet(t, "who has not heard of it", a.talk, a.book)
	hear(t, a.talk, a.book, m)
	wantShort(t, "the answer", read(t, say(t, a.talk, a.book)), "[{4 1}] true [{4 1}] [] false []")
}

func TestWhatIsNeededIsTold(t *testing.T) {
	l := ladder(8)
	b := bookOf(t, l...)
	for _, need := range [][]api.Ref{refs(1, 1), refs(1, 3, 2, 1), refs(1, 2, 1, 4, 2, 3), refs(1, 4, 2, 4, 3, 7, 9, 9), refs(3, 1)} {
		x := New()
		// A filter in which all of the book seems to be.
		filter := slices.Repeat([]byte{255}, 20)
		x.heard, x.last = true, Message{Need: need, Filter: filter}
		want := slices.DeleteFunc(slices.Clone(need), func(r api.Ref) bool { return !b.Has(r) })
		got := refsOf(read(t, say(t, x, b)).Changes)
		for _, r := range want {
			if !slices.Contains(got, r) {
				t.Errorf("of %v needed: told is %v, want %v", need, got, want)
			}
		}
		if len(got) != len(want) {
			t.Errorf("of %v needed: told is %v, want %v", need, got, want)
		}
	}
}

// What is needed is what was said last, not what was said once.
func TestWhatWasHeardLastCounts(t *testing.T) {
	l := ladder(6)
	b := bookOf(t, l[:4]...)
	x, y := New(), New()
	hear(t, y, dag.New(), say(t, x, b))
	early := say(t, y, dag.New())
	hear(t, x, b, early)
	wantRefs(t, "told to one that has nothing", refsOf(read(t, say(t, x, b)).Changes), refsOf(l[:4]))
	hear(t, y, dag.New(), say(t, x, b))
	late := say(t, y, bookOf(t, l[:3]...))
	hear(t, x, b, late)
	wantShort(t, "told to one that has most", read(t, say(t, x, b)), "[{2 2}] true [{1 2}] [] false [{2 2}]")
	hear(t, x, b, early)
	wantShort(t, "heard in another order", read(t, say(t, x, b)), "[{2 2}] true [] [] false [{1 1} {2 1} {1 2} {2 2}]")
}

func TestHearTakesChangesOneByOne(t *testing.T) {
	l := append(ladder(4), plainChange(5, 1, 1))
	x := New()
	x.Hear(dag.New(), say(t, New(), dag.New()))
	m := say(t, x, bookOf(t, l...))
	if n := len(read(t, m).Changes); n != 5 {
		t.Fatalf("%d changes are said, want 5", n)
	}
	b := dag.New()
	hear(t, New(), b, m)
	wantRefs(t, "taken into an empty book", refsOf(b.All()), refsOf(l))

	// Another change of 2:1 is there: that of the message is refused, and what hangs on it is not what it says.
	other := plainChange(2, 1, 7)
	b = bookOf(t, other)
	hear(t, New(), b, m)
	wantRefs(t, "taken beside another one", refsOf(b.All()), refs(1, 1, 2, 1, 5, 1))
	if c, err := b.Change(refOf(other)); err != nil || c.Start != 7 {
		t.Errorf("taken beside another one: %v, %v", c, err)
	}

	b = bookOf(t, chain(9, api.MaxChanges-2)...)
	hear(t, New(), b, m)
	if len(b.All()) != api.MaxChanges || !b.Has(api.Ref{Actor: 2, Seq: 1}) || b.Has(api.Ref{Actor: 1, Seq: 2}) {
		t.Errorf("taken into a book that gets full: %v", refsOf(b.All()))
	}
}

// What is refused is left out of the book, and what the message says is known all the same.
func TestWhatARefusedMessageSaysIsKnown(t *testing.T) {
	x, b := New(), bookOf(t, plainChange(1, 1, 5))
	y := New()
	hear(t, y, bookOf(t, ladder(2)...), say(t, New(), dag.New()))
	hear(t, x, b, say(t, y, bookOf(t, ladder(2)...)))
	wantShort(t, "of what was refused", read(t, say(t, x, b)), "[{1 1}] true [{2 1}] [{2 1}] false []")
}

func TestHearKeepsNothingOfTheBytes(t *testing.T) {
	x, y, b := New(), New(), bookOf(t, ladder(3)...)
	m := say(t, New(), bookOf(t, ladder(5)...))
	twin := slices.Clone(m)
	hear(t, y, bookOf(t, ladder(3)...), twin)
	hear(t, x, b, m)
	if !slices.Equal(m, twin) {
		t.Errorf("Hear wrote into the message")
	}
	for i := range m {
		m[i] = 255
	}
	if got, want := say(t, x, b), say(t, y, b); !slices.Equal(got, want) {
		t.Errorf("said is %v, want %v: the Talk kept the bytes that were handed in", read(t, got), read(t, want))
	}
}

func TestChangesAreTheBooksAlone(t *testing.T) {
	x, y, b := New(), New(), dag.New()
	hear(t, y, b, say(t, x, b))
	hear(t, x, b, say(t, y, bookOf(t, ladder(5)...)))
	if len(b.All()) != 5 || len(x.last.Changes) > 0 {
		t.Errorf("the Talk keeps %v, the book has %v", refsOf(x.last.Changes), refsOf(b.All()))
	}
}

func TestWhatIsSaidIsTheCallers(t *testing.T) {
	x, b := New(), bookOf(t, ladder(3)...)
	hear(t, x, b, say(t, New(), bookOf(t, apart(5)[4])))
	first := say(t, x, b)
	want := slices.Clone(first)
	for i := range first {
		first[i] = 0
	}
	if got := say(t, x, b); !slices.Equal(got, want) {
		t.Errorf("said is %v, want %v: Say gave out its own bytes", got, want)
	}
}

func TestReadSharesNothing(t *testing.T) {
	b := bookOf(t, append(ladder(6), plainChange(3, 1, 7, 1, 3, 2, 3), plainChange(7, 1, 9, 6, 1))...)
	x := New()
	hear(t, x, b, say(t, New(), bookOf(t, apart(5)[3:]...)))
	m := say(t, x, b)
	kept := slices.Clone(m)
	got, want := read(t, m), read(t, kept)
	if len(got.Heads)*len(got.Known)*len(got.Need)*len(got.Filter)*len(got.Changes) == 0 {
		t.Fatalf("a list of the message is empty: %+v", got)
	}
	if !slices.Equal(m, kept) {
		t.Errorf("Read wrote into the message")
	}
	for i := range m {
		m[i] = 255
	}
	if !reflect.DeepEqual(got, want) {
		t.Errorf("what was read shares memory with the bytes: %+v, want %+v", got, want)
	}
	wantOwnRefs(t, &got, want)
	got.Changes[0].Ops[0].Key = "z"
	got.Changes[1].Deps[0].Seq = 99
	if again := read(t, kept); !reflect.DeepEqual(again, want) {
		t.Errorf("what is read changed: %+v, want %+v", again, want)
	}
}

// wantOwnRefs writes over, and behind, each list of a message in turn, and sees that the others stay.
func wantOwnRefs(t *testing.T, m *Message, want Message) {
	t.Helper()
	lists := []*[]api.Ref{&m.Heads, &m.Known, &m.Need}
	for _, c := range m.Changes {
		lists = append(lists, &c.Deps)
	}
	for _, l := range lists {
		old := slices.Clone(*l)
		clear((*l)[:cap(*l)])
		copy(*l, old)
		if !reflect.DeepEqual(*m, want) {
			t.Errorf("two lists of a message share memory: %+v, want %+v", *m, want)
		}
	}
}

func TestSayDoesNotChangeTheBook(t *testing.T) {
	b := bookOf(t, append(ladder(6), plainChange(7, 1, 9, 6, 1))...)
	before := look(b)
	x := New()
	say(t, x, b)
	hear(t, x, b, say(t, New(), dag.New()))
	say(t, x, b)
	if look(b) != before {
		t.Errorf("Say changed the book: %s, was %s", look(b), before)
	}
}
