package sync

import (
	"fmt"
	"math/rand"
	"reflect"
	"slices"
	"testing"

	"commonbook/api"
	"commonbook/bloom"
	"commonbook/dag"
	"commonbook/doc"
	"commonbook/plain"
)

// refs of numbers: an actor, a Seq, and so on.
func refs(n ...int) (l []api.Ref) {
	for i := 0; i < len(n); i += 2 {
		l = append(l, api.Ref{Actor: n[i], Seq: n[i+1]})
	}
	return l
}

// plainChange has one op, which leans on nothing.
func plainChange(actor, seq, start int, deps ...int) api.Change {
	op := api.Op{Kind: api.Put, Key: "a", Value: api.Value{Kind: api.Number, Num: actor}}
	return api.Change{Actor: actor, Seq: seq, Start: start, Deps: refs(deps...), Ops: []api.Op{op}}
}

// chain of one actor, each hanging on the one ahead.
func chain(actor, many int) (l []api.Change) {
	for i := range many {
		c := plainChange(actor, i+1, i+1)
		if i > 0 {
			c.Deps = refs(actor, i)
		}
		l = append(l, c)
	}
	return l
}

// ladder of two actors by turns, each hanging on the one ahead, which is the other actor's.
func ladder(many int) (l []api.Change) {
	for i := range many {
		c := plainChange(i%2+1, i/2+1, i+1)
		if i > 0 {
			c.Deps = refs((i-1)%2+1, (i-1)/2+1)
		}
		l = append(l, c)
	}
	return l
}

// apart: changes of so many actors, none hanging on another.
func apart(many int) (l []api.Change) {
	for i := range many {
		l = append(l, plainChange(i+1, 1, 1))
	}
	return l
}

// bookOf takes changes that all are taken, or wait.
func bookOf(t *testing.T, l ...api.Change) *dag.Book {
	t.Helper()
	b := dag.New()
	for _, c := range l {
		if err := b.Take(c); err != nil {
			t.Fatalf("Take of %v: got %v", refOf(c), err)
		}
	}
	return b
}

func refsOf(l []api.Change) (out []api.Ref) {
	for _, c := range l {
		out = append(out, refOf(c))
	}
	return out
}

// look is all that can be told of a book.
func look(b *dag.Book) string {
	missing, err := b.Missing(nil)
	return fmt.Sprint(b.All(), b.Heads(), b.Waiting(), missing, err)
}

func missing(t *testing.T, b *dag.Book, heads []api.Ref) []api.Ref {
	t.Helper()
	l, err := b.Missing(heads)
	if err != nil {
		t.Fatalf("Missing of %v: got %v", heads, err)
	}
	return l
}

func read(t *testing.T, m []byte) Message {
	t.Helper()
	said, err := Read(m)
	if err != nil {
		t.Fatalf("Read of what was said, %v: got %v", m, err)
	}
	return said
}

func hear(t *testing.T, x *Talk, b *dag.Book, m []byte) {
	t.Helper()
	if err := x.Hear(b, m); err != nil {
		t.Fatalf("Hear of what was said, %v: got %v", m, err)
	}
}

func wantRefs(t *testing.T, what string, got, want []api.Ref) {
	t.Helper()
	if !slices.Equal(got, want) {
		t.Errorf("%s: got %v, want %v", what, got, want)
	}
}

func wantFile(t *testing.T, what string, err error) {
	t.Helper()
	if err == nil || plain.Told(err) != api.ErrFile {
		t.Errorf("%s: error %v, want ErrFile", what, err)
	}
}

// side is a book and a Talk, and beside them what was heard, as the chapter's words count it.
type side struct {
	book *dag.Book
	talk *Talk
	last *Message
	owes bool
}

func sideOf(t *testing.T, l ...api.Change) *side {
	t.Helper()
	return &side{book: bookOf(t, l...), talk: New()}
}

// forget makes the Talk anew.
func (s *side) forget() { s.talk, s.last, s.owes = New(), nil, false }

// content: as S1 words it.
func (s *side) content(t *testing.T) bool {
	t.Helper()
	if s.last == nil {
		return false
	}
	heads := s.book.Heads()
	same := slices.Equal(s.last.Heads, heads) && len(missing(t, s.book, heads)) == 0
	return same && s.last.Knows && slices.Equal(s.last.Known, heads)
}

// say gives what is said, and holds it against S1 and S2.
func (s *side) say(t *testing.T) []byte {
	t.Helper()
	before := look(s.book)
	quiet := s.content(t) && !s.owes
	m := s.talk.Say(s.book)
	if look(s.book) != before {
		t.Fatalf("Say changed the book: %s, was %s", look(s.book), before)
	}
	if (len(m) == 0) != quiet {
		t.Fatalf("Say of %s, heard %+v: %d bytes, want none: %v", before, s.last, len(m), quiet)
	}
	if quiet {
		return nil
	}
	s.owes = false
	s.check(t, read(t, m))
	return m
}

// check holds a message against S2.
func (s *side) check(t *testing.T, m Message) {
	t.Helper()
	wantRefs(t, "Heads", m.Heads, s.book.Heads())
	if m.Knows != (s.last != nil) {
		t.Errorf("Knows: got %v, heard was %+v", m.Knows, s.last)
	}
	var known, need []api.Ref
	if s.last != nil {
		known, need = s.last.Heads, s.last.Need
	}
	wantRefs(t, "Known", m.Known, known)
	wantRefs(t, "Need", m.Need, missing(t, s.book, known))
	if want := s.content(t); m.Content != want {
		t.Errorf("Content: got %v, want %v", m.Content, want)
	}
	filter, err := bloom.Make(refsOf(s.book.All()), 8*len(m.Filter))
	if err != nil || !slices.Equal(m.Filter, filter) {
		t.Errorf("Filter: got %v, want %v, %v", m.Filter, filter, err)
	}
	s.checkChanges(t, m.Changes, need)
}

func (s *side) checkChanges(t *testing.T, l []api.Change, need []api.Ref) {
	t.Helper()
	told := map[api.Ref]int{}
	for _, c := range l {
		told[refOf(c)]++
		own, err := s.book.Change(refOf(c))
		if err != nil || fmt.Sprint(c) != fmt.Sprint(own) {
			t.Errorf("Changes: got %v, the book has %v, %v", c, own, err)
		}
		if told[refOf(c)] > 1 {
			t.Errorf("Changes: %v is told %d times", refOf(c), told[refOf(c)])
		}
	}
	for _, r := range need {
		if s.book.Has(r) && told[r] == 0 {
			t.Errorf("Changes: %v is needed and had, and not told: %v", r, refsOf(l))
		}
	}
}

// hear hears bytes, whatever they are: a message, or what is none; it tells which.
func (s *side) hear(t *testing.T, m []byte) bool {
	t.Helper()
	said, err := Read(m)
	before := look(s.book)
	talk := *s.talk
	got := s.talk.Hear(s.book, m)
	if err != nil {
		wantFile(t, "Read", err)
		wantFile(t, "Hear", got)
		if look(s.book) != before || !reflect.DeepEqual(*s.talk, talk) || !reflect.DeepEqual(said, Message{}) {
			t.Fatalf("Hear of what is none changed something")
		}
		return false
	}
	if got != nil {
		t.Fatalf("Hear: %v of what Read reads", got)
	}
	s.last = &said
	s.owes = s.owes || !said.Content
	return true
}

// turn has one say and the other one hear; it tells whether something was said.
func turn(t *testing.T, from, to *side) bool {
	t.Helper()
	m := from.say(t)
	if m == nil {
		return false
	}
	if !to.hear(t, m) {
		t.Fatalf("what was said is not heard: %v", m)
	}
	return true
}

// calm has both speak in turn till two turns are quiet, and gives how many turns there were, the quiet ones among them.
func calm(t *testing.T, a, b *side, most int) int {
	t.Helper()
	quiet := 0
	for n := 1; n <= most; n++ {
		quiet++
		if turn(t, a, b) {
			quiet = 0
		}
		if quiet == 2 {
			return n
		}
		a, b = b, a
	}
	t.Fatalf("not quiet within %d turns:\n%s\n%s", most, look(a.book), look(b.book))
	return most
}

// comeTogether holds two sides against S3, where all together have just the changes of l.
func comeTogether(t *testing.T, a, b *side, l []api.Change) int {
	t.Helper()
	turns := calm(t, a, b, 4*len(l)+12)
	all := bookOf(t, l...)
	if len(all.Waiting()) > 0 {
		t.Fatalf("the test's changes wait: %v", all.Waiting())
	}
	for _, s := range []*side{a, b} {
		if look(s.book) != look(all) {
			t.Fatalf("come to have %v, want %v", look(s.book), look(all))
		}
	}
	for range 3 {
		if m := a.talk.Say(a.book); m != nil {
			t.Fatalf("more is said: %v", m)
		}
		if m := b.talk.Say(b.book); m != nil {
			t.Fatalf("more is said: %v", m)
		}
	}
	return turns
}

// hands gives the changes of some hands that write and merge at random.
func hands(t *testing.T, rng *rand.Rand, actors, steps int) []api.Change {
	t.Helper()
	var docs []*doc.Doc
	for _, i := range rng.Perm(api.MaxActor)[:actors] {
		d, err := doc.New(i + 1)
		if err != nil {
			t.Fatal(err)
		}
		docs = append(docs, d)
	}
	for range steps {
		d := docs[rng.Intn(actors)]
		if rng.Intn(3) == 0 {
			d.Merge(docs[rng.Intn(actors)])
		}
		for range 1 + rng.Intn(3) {
			scribble(rng, d)
		}
		d.Commit()
	}
	all := dag.New()
	for _, d := range docs {
		for _, c := range d.All() {
			if err := all.Take(c); err != nil {
				t.Fatalf("hands: %v", err)
			}
		}
	}
	return all.All()
}

// scribble adds a pending op, if it may be.
func scribble(rng *rand.Rand, d *doc.Doc) {
	key := string(rune('a' + rng.Intn(4)))
	number := api.Value{Kind: api.Number, Num: rng.Intn(9)}
	list := api.Id{}
	if l, err := d.Get(api.Id{}, "l"); err == nil && len(l) > 0 {
		list = l[0].Obj
	}
	switch rng.Intn(7) {
	case 0:
		d.Make(api.Id{}, "l", api.List)
	case 1:
		d.Insert(list, 0, api.Value{Kind: api.Text, Text: "some text"})
	case 2:
		d.Del(api.Id{}, key)
	case 3:
		d.Put(api.Id{}, key, api.Value{Kind: api.Count, Num: 1})
	case 4:
		d.Add(api.Id{}, key, 2)
	default:
		d.Put(api.Id{}, key, number)
	}
}

// share deals changes out to two sides, each to one of them at least, in any order, so that some wait.
func share(t *testing.T, rng *rand.Rand, l []api.Change) (a, b *side) {
	t.Helper()
	a, b = sideOf(t), sideOf(t)
	for _, i := range rng.Perm(len(l)) {
		to := rng.Intn(3)
		if to != 0 {
			a.book.Take(l[i])
		}
		if to != 1 {
			b.book.Take(l[i])
		}
	}
	return a, b
}
