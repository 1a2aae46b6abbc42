package net

import (
	"fmt"
	"slices"
	"testing"

	"commonbook/api"
	"commonbook/dag"
	"commonbook/doc"
)

// calm holds a Calm against what N2 says of all, and gives how many rounds it told.
func calm(t *testing.T, n *Net) int {
	t.Helper()
	rounds := n.Calm()
	if rounds < 0 || rounds > 100 {
		t.Fatalf("Calm: got %d rounds", rounds)
	}
	if n.Flying() != 0 {
		t.Fatalf("Calm: %d fly", n.Flying())
	}
	for i, d := range n.docs {
		if d.Pending() != 0 {
			t.Fatalf("Calm: %d pending in hand %d", d.Pending(), i)
		}
	}
	return rounds
}

// union has all changes that hands have, or that wait there.
func union(t *testing.T, l ...*doc.Doc) *dag.Book {
	t.Helper()
	all := dag.New()
	for _, d := range l {
		for _, c := range d.All() {
			if err := all.Take(c); err != nil {
				t.Fatalf("the test's changes do not go together: %v", err)
			}
		}
	}
	return all
}

// wantTogether holds a Calm, of a net where nothing was garbled, against N2: all come to have just what they had together.
func wantTogether(t *testing.T, n *Net) int {
	t.Helper()
	all := union(t, n.docs...)
	for _, d := range n.docs {
		for _, p := range d.Book().Waiting() {
			if !all.Has(p) {
				t.Fatalf("the test's changes wait for ever: %v", p)
			}
		}
	}
	return wantAll(t, n, all)
}

func wantAll(t *testing.T, n *Net, all *dag.Book) int {
	t.Helper()
	rounds := calm(t, n)
	if rounds >= 100 {
		t.Fatalf("Calm: got %d rounds, want less than 100", rounds)
	}
	want := fmt.Sprint(all.All())
	for i, d := range n.docs {
		if got := fmt.Sprint(d.All()); got != want {
			t.Fatalf("Calm: hand %d has %s, want %s", i, got, want)
		}
		if d.Text() != n.docs[0].Text() || len(d.Book().Waiting()) != 0 {
			t.Fatalf("Calm: hand %d reads %s, hand 0 %s", i, d.Text(), n.docs[0].Text())
		}
	}
	if again := calm(t, n); again != 0 {
		t.Fatalf("a second Calm: got %d rounds", again)
	}
	return rounds
}

func TestCalmOfOneHand(t *testing.T) {
	n := netOf(t, 1)
	if got := wantTogether(t, n); got != 0 {
		t.Errorf("of one hand: got %d rounds", got)
	}
	write(t, hand(t, n, 0), "a", 1)
	put(t, hand(t, n, 0), "a", 2)
	if got := wantTogether(t, n); got != 0 || hand(t, n, 0).Text() != `{"a":1}` {
		t.Errorf("of one hand: got %d rounds, %s", got, hand(t, n, 0).Text())
	}
}

// Two rounds: one in which nobody knows that the other one knows, and one in which the first one says that it is content.
func TestCalmOfHandsThatDidNothing(t *testing.T) {
	for many := 2; many <= api.MaxNet; many++ {
		n := netOf(t, many)
		if got := wantTogether(t, n); got != 2 {
			t.Errorf("of %d hands that did nothing: got %d rounds, want 2", many, got)
		}
		if hand(t, n, many-1).Text() != "{}" {
			t.Errorf("of nothing comes %s", hand(t, n, many-1).Text())
		}
	}
}

// Rounds of two hands, of which one makes a change at a time: who needs it says so, is told, and is told that this is known.
func TestCalmTellsRounds(t *testing.T) {
	n := netOf(t, 2)
	for i, row := range []struct{ who, rounds int }{{0, 3}, {0, 2}, {1, 2}, {1, 2}, {0, 2}} {
		write(t, hand(t, n, row.who), "a", i)
		if got := wantTogether(t, n); got != row.rounds {
			t.Errorf("change %d, of hand %d: got %d rounds, want %d", i, row.who, got, row.rounds)
		}
	}
}

func TestCalmBringsAllTogether(t *testing.T) {
	for many := 2; many <= api.MaxNet; many++ {
		n := netOf(t, many)
		for i := range many {
			for k := range 5 {
				write(t, hand(t, n, i), fmt.Sprint("key ", k), i)
			}
		}
		if len(union(t, n.docs...).All()) != 5*many {
			t.Fatalf("the test's changes are not there")
		}
		wantTogether(t, n)
		write(t, hand(t, n, many/2), "one more", 7)
		wantTogether(t, n)
	}
}

func TestCalmRollsBack(t *testing.T) {
	n := netOf(t, 3)
	write(t, hand(t, n, 1), "a", 1)
	for i := range 3 {
		put(t, hand(t, n, i), "b", i)
	}
	wantTogether(t, n)
	// Nothing lands any more: what is pending is gone all the same.
	put(t, hand(t, n, 0), "b", 3)
	if got := calm(t, n); got != 0 {
		t.Errorf("Calm of hands that are content: got %d rounds", got)
	}
	for i := range 3 {
		if got := hand(t, n, i).Text(); got != `{"a":1}` {
			t.Errorf("hand %d reads %s", i, got)
		}
	}
}

// What flies is heard, the first one first: so the last one of many is what is known.
func TestCalmLandsWhatFlies(t *testing.T) {
	n := netOf(t, 2)
	write(t, hand(t, n, 0), "a", 1)
	must(t, n.Tick(0, 1))
	write(t, hand(t, n, 0), "a", 2)
	must(t, n.Tick(0, 1), n.Tick(1, 0), n.Twice(0), n.Land(2), n.Tick(0, 1))
	wantFlight(t, "ahead of Calm", n, "0 1 [{1 1}]", "0 1 [{1 2}]", "0 1 [{1 1}]", "0 1 [{1 2}]")
	// The last one has the changes: 1 says that it has them, 0 that it is content.
	if got := wantTogether(t, n); got != 2 {
		t.Errorf("got %d rounds, want 2", got)
	}
}

// In the other order hand 0 would know the older Heads last, and not be content with what hand 1 answers.
func TestCalmLandsInOrder(t *testing.T) {
	n := netOf(t, 2)
	wantTogether(t, n)
	for i := range 2 {
		write(t, hand(t, n, 1), "a", i)
		must(t, n.Tick(1, 0))
	}
	wantFlight(t, "ahead of Calm", n, "1 0 [{2 1}]", "1 0 [{2 2}]")
	if got := wantTogether(t, n); got != 1 {
		t.Errorf("got %d rounds, want 1", got)
	}
}

func TestCalmWithMuchThatFlies(t *testing.T) {
	n := netOf(t, api.MaxNet)
	for i := range 60 {
		write(t, hand(t, n, i%api.MaxNet), "a", i)
		for _, two := range n.pairs() {
			must(t, n.Tick(two[0], two[1]))
		}
		must(t, n.Land(i*7%n.Flying()), n.Twice(i*5%n.Flying()))
	}
	if n.Flying() != 60*30 {
		t.Fatalf("%d fly", n.Flying())
	}
	wantTogether(t, n)
}

func TestCalmOfFullBooks(t *testing.T) {
	n := netOf(t, api.MaxNet)
	for i := range api.MaxChanges {
		write(t, hand(t, n, i%api.MaxNet), fmt.Sprint("k", i%17), i)
	}
	wantTogether(t, n)
	for i, d := range n.docs {
		if len(d.All()) != api.MaxChanges {
			t.Errorf("hand %d has %d changes", i, len(d.All()))
		}
	}
}

// Where all together have more than a book may have, books refuse what others have: Calm ends all the same.
func TestCalmOfMoreThanABookHolds(t *testing.T) {
	n := netOf(t, 2)
	for i := range api.MaxChanges + 1 {
		write(t, hand(t, n, i%2), "a", i)
	}
	for range 2 {
		if got := calm(t, n); got != 100 {
			t.Errorf("got %d rounds, want 100", got)
		}
		for i, d := range n.docs {
			if len(d.All()) != api.MaxChanges {
				t.Errorf("hand %d has %d changes", i, len(d.All()))
			}
		}
	}
}

// rungs gives changes of one actor that no hand of a net has, each hanging on the one ahead.
func rungs(t *testing.T, many int) []api.Change {
	t.Helper()
	d, err := doc.New(50)
	must(t, err)
	for i := range many {
		write(t, d, "a", i)
	}
	return d.All()
}

// What nobody has is missed for ever, and asked for in each round; all else comes over.
func TestCalmWhereSomethingIsMissing(t *testing.T) {
	n := netOf(t, 3)
	write(t, hand(t, n, 2), "b", 1)
	must(t, hand(t, n, 0).Take(rungs(t, 2)[1]))
	if got := calm(t, n); got != 100 {
		t.Errorf("got %d rounds, want 100", got)
	}
	for i, d := range n.docs {
		if d.Text() != `{"b":1}` {
			t.Errorf("hand %d reads %s", i, d.Text())
		}
	}
	must(t, hand(t, n, 1).Take(rungs(t, 1)[0]))
	all := union(t, n.docs...)
	must(t, all.Take(rungs(t, 2)[1]))
	wantAll(t, n, all)
}

// What waits in hands comes in, a rung at a time.
func TestCalmWakesWhatWaits(t *testing.T) {
	for many := 2; many <= api.MaxNet; many++ {
		l := rungs(t, 90)
		n := netOf(t, many)
		all := dag.New()
		for i, c := range l {
			// Against the order in which hands speak, so that each round wakes the fewest.
			must(t, hand(t, n, many-1-i%many).Take(c), all.Take(c))
		}
		wantAll(t, n, all)
	}
}

func TestCalmAfterAllTalksAreForgotten(t *testing.T) {
	n := netOf(t, 4)
	for i := range 4 {
		write(t, hand(t, n, i), "a", i)
	}
	wantTogether(t, n)
	for _, two := range n.pairs() {
		must(t, n.Forget(two[0], two[1]))
	}
	// As if they had done nothing: the books are the same already.
	if got := wantTogether(t, n); got != 2 {
		t.Errorf("got %d rounds, want 2", got)
	}
}

func TestCalmAfterMerging(t *testing.T) {
	n := netOf(t, 3)
	write(t, hand(t, n, 0), "a", 1)
	must(t, n.Tick(0, 1), n.Land(0), n.Tick(1, 0), n.Land(0))
	for _, two := range n.pairs() {
		if _, err := hand(t, n, two[0]).Merge(hand(t, n, two[1])); err != nil {
			t.Fatalf("Merge: got %v", err)
		}
		write(t, hand(t, n, two[1]), "b", two[0])
	}
	wantTogether(t, n)
}

// Calm lands what was garbled, too, and ends: what is not heard does no harm.
func TestCalmWithSomethingGarbled(t *testing.T) {
	for place := range 40 {
		n := netOf(t, 3)
		for i := range 3 {
			write(t, hand(t, n, i), "a", i)
		}
		for range 2 {
			for _, two := range n.pairs() {
				must(t, n.Tick(two[0], two[1]))
			}
			must(t, n.Land(1), n.Land(4), n.Land(0))
		}
		for at := range n.Flying() {
			must(t, n.Garble(at, place*at, byte(place*37)))
		}
		put(t, hand(t, n, 1), "b", place)
		wantTogether(t, n)
	}
}

// calmByHand does what Calm does where nothing flies, by Ticks and Lands.
func calmByHand(t *testing.T, n *Net) int {
	t.Helper()
	many := len(n.docs)
	for rounds := range 100 {
		said := 0
		for i := range many * many {
			if i/many == i%many {
				continue
			}
			must(t, n.Tick(i/many, i%many))
			said += n.Flying()
			for range n.Flying() {
				must(t, n.Land(0))
			}
		}
		if said == 0 {
			return rounds
		}
	}
	return 100
}

// Each speaks to each other one, by i, then k, and is heard at once.
func TestCalmSpeaksInOrder(t *testing.T) {
	for who := range 4 {
		n, other := netOf(t, 4), netOf(t, 4)
		for i := range 3 {
			write(t, hand(t, n, who), "a", i)
			write(t, hand(t, other, who), "a", i)
		}
		rounds := calmByHand(t, other)
		if got := calm(t, n); got != rounds || look(n) != look(other) {
			t.Errorf("Calm: got %d rounds, %s; by hand %d, %s", got, look(n), rounds, look(other))
		}
	}
}

// 100 rounds are the last, even where something is still to be said: here each round wakes so few that there would be more.
func TestCalmEndsAfterTheLastRound(t *testing.T) {
	n, other := netOf(t, api.MaxNet), netOf(t, api.MaxNet)
	for i, c := range rungs(t, api.MaxChanges) {
		to := api.MaxNet - 1 - i%api.MaxNet
		must(t, hand(t, n, to).Take(c), hand(t, other, to).Take(c))
	}
	if got := calmByHand(t, other); got != 100 {
		t.Fatalf("by hand: got %d rounds", got)
	}
	if got := calm(t, n); got != 100 || look(n) != look(other) {
		t.Errorf("Calm: got %d rounds, %s; by hand %s", got, look(n), look(other))
	}
	if got := calm(t, n); got == 0 {
		t.Errorf("a second Calm: nothing was to be said any more")
	}
}

// Calls that follow a Calm work as ahead of it.
func TestAfterCalm(t *testing.T) {
	n := threeFlying(t)
	calm(t, n)
	for name, call := range four(n) {
		wantRange(t, name+" after Calm", call(0))
	}
	write(t, hand(t, n, 2), "c", 3)
	must(t, n.Tick(2, 0), n.Tick(2, 1))
	heads := fmt.Sprint(hand(t, n, 2).Heads())
	wantFlight(t, "Ticks after Calm", n, "2 0 "+heads, "2 1 "+heads)
	must(t, n.Land(1), n.Drop(0))
	if !slices.Equal(hand(t, n, 1).Heads(), hand(t, n, 2).Heads()) {
		t.Errorf("Land after Calm: hand 1 has %v", hand(t, n, 1).Heads())
	}
	wantTogether(t, n)
}
