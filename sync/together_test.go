package sync

import (
	"math/rand"
	"slices"
	"testing"

	"commonbook/api"
	"commonbook/bloom"
)

func TestTwoBooksOfAnyHandsComeTogether(t *testing.T) {
	rng := rand.New(rand.NewSource(1))
	for range 400 {
		l := hands(t, rng, 1+rng.Intn(6), rng.Intn(30))
		a, b := share(t, rng, l)
		comeTogether(t, a, b, l)
	}
}

func TestEmptyBooksComeTogether(t *testing.T) {
	if n := comeTogether(t, sideOf(t), sideOf(t), nil); n != 5 {
		t.Errorf("two empty books: %d turns, want 5", n)
	}
	l := chain(3, 7)
	comeTogether(t, sideOf(t, l...), sideOf(t), l)
	comeTogether(t, sideOf(t), sideOf(t, l...), l)
}

func TestBooksOfTheSameChangesComeToBeQuiet(t *testing.T) {
	l := ladder(20)
	comeTogether(t, sideOf(t, l...), sideOf(t, l...), l)
}

func TestGreatBooksComeTogether(t *testing.T) {
	long, wide := chain(9, api.MaxChanges), append(apart(api.MaxActor), chain(99, 22)[1:]...)
	for _, l := range [][]api.Change{long, wide, ladder(api.MaxChanges)} {
		comeTogether(t, sideOf(t, l...), sideOf(t), l)
		comeTogether(t, sideOf(t), sideOf(t, l...), l)
		comeTogether(t, sideOf(t, l[:70]...), sideOf(t, l[:30]...), l[:70])
	}
	comeTogether(t, sideOf(t, wide[:60]...), sideOf(t, wide[60:99]...), wide[:99])
}

func TestManyChangesOfManyOpsComeOver(t *testing.T) {
	l := chain(1, api.MaxChanges)
	for i := range l {
		op := api.Op{Kind: api.Put, Key: "a key of 20 bytes...", Value: api.Value{Kind: api.Text, Text: "sixty bytes of text, that are the most that a text may have."}}
		l[i].Start = i*api.MaxOps + 1
		l[i].Ops = slices.Repeat([]api.Op{op}, api.MaxOps)
	}
	comeTogether(t, sideOf(t, l...), sideOf(t), l)
}

// In a ladder of which each side has every second rung, each message wakes just one more.
func TestWhatWaitsOnBothSidesComesIn(t *testing.T) {
	l := ladder(api.MaxChanges)
	a, b := sideOf(t), sideOf(t)
	for i, c := range l {
		if i%2 == 0 {
			a.book.Take(c)
		} else {
			b.book.Take(c)
		}
	}
	if len(a.book.All()) != 1 || len(b.book.All()) != 0 {
		t.Fatalf("the test's changes do not wait")
	}
	comeTogether(t, a, b, l)
}

func TestWhatWaitsOnOneSideComesIn(t *testing.T) {
	l := ladder(30)
	comeTogether(t, sideOf(t, l[5:]...), sideOf(t, l[:5]...), l)
	comeTogether(t, sideOf(t, l[5:]...), sideOf(t, l...), l)
	comeTogether(t, sideOf(t, l[:29]...), sideOf(t, l[1:]...), l)
}

// seeming gives two refs of Seq 1 of which the filter of the first one's book has the other one, too.
func seeming(t *testing.T) (there, seems int) {
	t.Helper()
	for there = 1; there <= api.MaxActor; there++ {
		filter := read(t, New().Say(bookOf(t, plainChange(there, 1, 1)))).Filter
		for seems = 1; seems <= api.MaxActor; seems++ {
			has, err := bloom.Has(filter, api.Ref{Actor: seems, Seq: 1})
			if has && err == nil && seems != there {
				return there, seems
			}
		}
	}
	t.Fatal("there are no such refs")
	return 0, 0
}

func TestWhatTheFilterWronglyHasComesOver(t *testing.T) {
	there, seems := seeming(t)
	one, other := plainChange(there, 1, 1), plainChange(seems, 1, 1)
	comeTogether(t, sideOf(t, one), sideOf(t, other), []api.Change{one, other})
	comeTogether(t, sideOf(t, other), sideOf(t, one), []api.Change{one, other})
	l := []api.Change{one, other, plainChange(seems, 2, 2, seems, 1), plainChange(seems, 3, 3, seems, 2)}
	comeTogether(t, sideOf(t, one), sideOf(t, l...), l)
}

// chaos has two sides say and hear at random: what is said gets lost, doubled, garbled, late; books take changes of l, and Talks are made anew.
func chaos(t *testing.T, rng *rand.Rand, a, b *side, l []api.Change, steps int) {
	t.Helper()
	var flying [2][][]byte
	sides := [2]*side{a, b}
	for range steps {
		i := rng.Intn(2)
		switch rng.Intn(8) {
		case 0, 1, 2:
			if m := sides[i].say(t); m != nil {
				flying[i] = append(flying[i], m)
			}
		case 3, 4:
			// It flies on, so that it is doubled, or late, or both.
			if len(flying[i]) > 0 {
				sides[1-i].hear(t, flying[i][rng.Intn(len(flying[i]))])
			}
		case 5:
			if len(flying[i]) > 0 {
				sides[1-i].hear(t, garbled(rng, flying[i][rng.Intn(len(flying[i]))]))
			}
		case 6:
			if len(l) > 0 {
				sides[i].book.Take(l[rng.Intn(len(l))])
			}
		default:
			if rng.Intn(4) == 0 {
				sides[i].forget()
			}
		}
	}
}

// garbled gives bytes of which some are lost, added, or other ones.
func garbled(rng *rand.Rand, m []byte) []byte {
	if len(m) == 0 {
		return m
	}
	g := slices.Clone(m)
	at := rng.Intn(len(g))
	switch rng.Intn(5) {
	case 0:
		return g[:at]
	case 1:
		return append(g, byte(rng.Intn(256)))
	case 2:
		return slices.Delete(g, at, at+1)
	case 3:
		to := rng.Intn(len(g))
		g[at], g[to] = g[to], g[at]
	default:
		g[at] += byte(1 + rng.Intn(255))
	}
	return g
}

func TestWhateverWasSaidAheadBooksComeTogether(t *testing.T) {
	rng := rand.New(rand.NewSource(2))
	for range 400 {
		l := hands(t, rng, 1+rng.Intn(5), rng.Intn(20))
		a, b := share(t, rng, l)
		chaos(t, rng, a, b, l, rng.Intn(60))
		comeTogether(t, a, b, l)
		// Once more, from where they have come to.
		chaos(t, rng, b, a, l, rng.Intn(20))
		comeTogether(t, b, a, l)
	}
}

func TestTalksMadeAnewAtAnyTimeDoNoHarm(t *testing.T) {
	rng := rand.New(rand.NewSource(3))
	for range 40 {
		l := hands(t, rng, 1+rng.Intn(4), 1+rng.Intn(12))
		a0, b0 := share(t, rng, l)
		for at := range 10 {
			for _, who := range []int{1, 2, 3} {
				a, b := sideOf(t, held(l, a0)...), sideOf(t, held(l, b0)...)
				from, to := a, b
				for range at {
					turn(t, from, to)
					from, to = to, from
				}
				if who&1 != 0 {
					a.forget()
				}
				if who&2 != 0 {
					b.forget()
				}
				comeTogether(t, from, to, l)
			}
		}
	}
}

// held gives those of l that a side's book has, or that wait there.
func held(l []api.Change, s *side) []api.Change {
	waits := s.book.Waiting()
	left := func(c api.Change) bool { return !s.book.Has(refOf(c)) && !slices.Contains(waits, refOf(c)) }
	return slices.DeleteFunc(slices.Clone(l), left)
}

func TestBooksThatGrowAfterwardsComeTogetherAgain(t *testing.T) {
	rng := rand.New(rand.NewSource(4))
	for range 60 {
		l := hands(t, rng, 1+rng.Intn(4), 2+rng.Intn(20))
		cut := rng.Intn(len(l))
		a, b := share(t, rng, l[:cut])
		comeTogether(t, a, b, l[:cut])
		for i, c := range l[cut:] {
			// In their order the changes come in at once, wherever those ahead are.
			a.book.Take(c)
			comeTogether(t, b, a, l[:cut+i+1])
			a, b = b, a
		}
	}
}

// What waits for itself, or for each other, misses nothing, and comes in nowhere: so it is not in the way.
func TestWhatWaitsForItselfIsNotInTheWay(t *testing.T) {
	l := ladder(6)
	a, b := sideOf(t, l[:3]...), sideOf(t, l...)
	a.book.Take(plainChange(7, 1, 9, 7, 1))
	b.book.Take(plainChange(8, 1, 9, 9, 1))
	b.book.Take(plainChange(9, 1, 9, 8, 1))
	calm(t, a, b, 4*len(l)+12)
	wantRefs(t, "what one has", refsOf(a.book.All()), refsOf(b.book.All()))
	wantRefs(t, "what waits here", a.book.Waiting(), refs(7, 1))
	wantRefs(t, "what waits there", b.book.Waiting(), refs(8, 1, 9, 1))
}

// What neither side has is missing for ever: who needs it is not content, and says so; all else comes over.
func TestWhatNobodyHasIsNeededOnAndOn(t *testing.T) {
	l := chain(1, 5)
	a, b := sideOf(t, l...), sideOf(t, plainChange(2, 1, 1), plainChange(3, 2, 9, 3, 1))
	for range 20 {
		if !turn(t, a, b) || !turn(t, b, a) {
			t.Fatalf("nothing is said, while something is missing")
		}
	}
	wantRefs(t, "what one has", refsOf(a.book.All()), refsOf(b.book.All()))
	if b.content(t) || len(b.book.All()) != 6 {
		t.Errorf("what nobody has is in the way of the others: %v", refsOf(b.book.All()))
	}
	wantRefs(t, "what is needed", read(t, b.talk.Say(b.book)).Need, refs(3, 1))
}

// oddChange is one that Take may take, let wait for ever, or refuse.
func oddChange(rng *rand.Rand, actors, seqs int) api.Change {
	c := plainChange(1+rng.Intn(actors), 1+rng.Intn(seqs), 1+rng.Intn(30))
	if rng.Intn(9) == 0 {
		c.Seq = 1 + rng.Intn(api.MaxNum)
	}
	if rng.Intn(5) == 0 {
		c.Ops = nil
	}
	actor := 0
	for range rng.Intn(4) {
		actor += 1 + rng.Intn(4)
		c.Deps = append(c.Deps, api.Ref{Actor: actor, Seq: 1 + rng.Intn(seqs)})
	}
	return c
}

// Whatever books have, what refuses what, and what waits for ever: what is said can be read and heard, and says what it should.
func TestWhateverBooksHaveIsSaid(t *testing.T) {
	rng := rand.New(rand.NewSource(8))
	for range 200 {
		actors, seqs := 1+rng.Intn(20), 1+rng.Intn(6)
		a, b := sideOf(t), sideOf(t)
		for range rng.Intn(300) {
			c := oddChange(rng, actors, seqs)
			if rng.Intn(2) == 0 {
				a.book.Take(c)
			}
			if rng.Intn(2) == 0 {
				b.book.Take(c)
			}
		}
		var l []api.Change
		for range 20 {
			l = append(l, oddChange(rng, actors, seqs))
		}
		chaos(t, rng, a, b, l, 60)
		for range 6 {
			turn(t, a, b)
			turn(t, b, a)
		}
	}
}
