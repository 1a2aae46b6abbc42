package net

import (
	"fmt"
	"math"
	"slices"
	"testing"

	"commonbook/api"
	"commonbook/doc"
	"commonbook/plain"
	"commonbook/sync"
)

func netOf(t *testing.T, many int) *Net {
	t.Helper()
	n, err := New(many)
	if err != nil || n == nil {
		t.Fatalf("New of %d: got %v, %v", many, n, err)
	}
	return n
}

func hand(t *testing.T, n *Net, i int) *doc.Doc {
	t.Helper()
	d, err := n.Doc(i)
	if err != nil || d == nil {
		t.Fatalf("Doc of %d: got %v, %v", i, d, err)
	}
	return d
}

func must(t *testing.T, errs ...error) {
	t.Helper()
	for i, err := range errs {
		if err != nil {
			t.Fatalf("step %d: got %v", i, err)
		}
	}
}

func wantRange(t *testing.T, what string, err error) {
	t.Helper()
	if err == nil || plain.Told(err) != api.ErrRange {
		t.Errorf("%s: error %v, want ErrRange", what, err)
	}
}

func put(t *testing.T, d *doc.Doc, key string, num int) {
	t.Helper()
	must(t, d.Put(api.Id{}, key, api.Value{Kind: api.Number, Num: num}))
}

// write makes a change of one op.
func write(t *testing.T, d *doc.Doc, key string, num int) {
	t.Helper()
	put(t, d, key, num)
	if _, err := d.Commit(); err != nil {
		t.Fatalf("Commit: got %v", err)
	}
}

// lookAt is all that can be told of a hand.
func lookAt(d *doc.Doc) string {
	missing, err := d.Book().Missing(nil)
	return fmt.Sprint(d.All(), d.Book().Waiting(), missing, err, d.Pending(), d.Text())
}

// look is all that can be told of a net. It does not ask what hands would say, because to ask is to let them say it.
func look(n *Net) string {
	s := fmt.Sprint(n.Flying(), n.flying)
	for _, d := range n.docs {
		s += "; " + lookAt(d)
	}
	for _, two := range n.pairs() {
		s += fmt.Sprintf("; %v %+v", two, *n.talks[two])
	}
	return s
}

// flight tells of what flies: from whom, to whom, which Heads.
func flight(t *testing.T, n *Net) (l []string) {
	t.Helper()
	if n.Flying() != len(n.flying) {
		t.Errorf("Flying: got %d, and %d fly", n.Flying(), len(n.flying))
	}
	for _, p := range n.flying {
		m, err := sync.Read(p.Bytes)
		if err != nil {
			l = append(l, fmt.Sprint(p.From, p.To, " garbled"))
			continue
		}
		l = append(l, fmt.Sprint(p.From, p.To, m.Heads))
	}
	return l
}

func wantFlight(t *testing.T, what string, n *Net, want ...string) {
	t.Helper()
	if got := flight(t, n); !slices.Equal(got, want) {
		t.Errorf("%s: %q flies, want %q", what, got, want)
	}
}

// wantUnchanged holds a net against what it was ahead of calls that had an error.
func wantUnchanged(t *testing.T, what string, n *Net, before string) {
	t.Helper()
	if got := look(n); got != before {
		t.Errorf("%s: with an error something is changed: %s, was %s", what, got, before)
	}
}

// threeFlying is a net in which each hand has said something, and has something pending.
func threeFlying(t *testing.T) *Net {
	t.Helper()
	n := netOf(t, 3)
	for i := range 3 {
		write(t, hand(t, n, i), "a", i)
		put(t, hand(t, n, i), "b", i)
		must(t, n.Tick(i, (i+1)%3))
	}
	wantFlight(t, "three Ticks", n, "0 1 [{1 1}]", "1 2 [{2 1}]", "2 0 [{3 1}]")
	return n
}

func TestNew(t *testing.T) {
	for _, many := range []int{math.MinInt, -1, 0, api.MaxNet + 1, 99, math.MaxInt} {
		n, err := New(many)
		wantRange(t, fmt.Sprint("New of ", many), err)
		if n != nil {
			t.Errorf("New of %d: got %v with an error", many, n)
		}
	}
	for many := 1; many <= api.MaxNet; many++ {
		n := netOf(t, many)
		if n.Flying() != 0 {
			t.Errorf("New of %d: %d fly", many, n.Flying())
		}
		for i := range many {
			d := hand(t, n, i)
			if d.Text() != "{}" || d.Pending() != 0 || len(d.All()) != 0 {
				t.Errorf("New of %d: hand %d is not new: %s", many, i, lookAt(d))
			}
			put(t, d, "a", i)
			if r, err := d.Commit(); err != nil || r != (api.Ref{Actor: i + 1, Seq: 1}) {
				t.Errorf("New of %d: hand %d makes %v, %v", many, i, r, err)
			}
		}
	}
}

func TestNewMakesAnotherNet(t *testing.T) {
	n, other := netOf(t, 2), netOf(t, 2)
	before := look(other)
	write(t, hand(t, n, 0), "a", 1)
	must(t, n.Tick(0, 1), n.Tick(1, 0), n.Land(1), n.Land(0), n.Tick(0, 1))
	n.Calm()
	if got := look(other); got != before {
		t.Errorf("what one net does is done in another one: %s, was %s", got, before)
	}
}

func TestDocGivesTheSameHandEachTime(t *testing.T) {
	n := netOf(t, 3)
	for i := range 3 {
		for k := range 3 {
			if (hand(t, n, i) == hand(t, n, k)) != (i == k) {
				t.Errorf("Doc of %d and of %d", i, k)
			}
		}
	}
	d := hand(t, n, 1)
	write(t, d, "a", 7)
	n.Calm()
	if hand(t, n, 1) != d || hand(t, n, 1).Text() != `{"a":7}` {
		t.Errorf("after Calm Doc gives another hand: %s", hand(t, n, 1).Text())
	}
}

func TestDocOfNone(t *testing.T) {
	n := threeFlying(t)
	before := look(n)
	for _, i := range []int{math.MinInt, -1, 3, 4, api.MaxNet, math.MaxInt} {
		d, err := n.Doc(i)
		wantRange(t, fmt.Sprint("Doc of ", i), err)
		if d != nil {
			t.Errorf("Doc of %d: got %v with an error", i, d)
		}
	}
	wantUnchanged(t, "Doc", n, before)
}

// noTwo has numbers that are not two hands of three.
func noTwo() [][2]int {
	return [][2]int{
		{0, 0}, {1, 1}, {2, 2}, {3, 3}, {-1, -1},
		{-1, 0}, {0, -1}, {3, 0}, {0, 3}, {2, 3}, {3, 2}, {4, 1}, {1, 4}, {-1, 3},
		{math.MinInt, 1}, {1, math.MinInt}, {math.MaxInt, 1}, {1, math.MaxInt},
	}
}

func TestTickOfNoTwoHands(t *testing.T) {
	n := threeFlying(t)
	before := look(n)
	for _, two := range noTwo() {
		wantRange(t, fmt.Sprint("Tick of ", two), n.Tick(two[0], two[1]))
	}
	wantUnchanged(t, "Tick", n, before)
	one := netOf(t, 1)
	wantRange(t, "Tick of one hand that is alone", one.Tick(0, 0))
	wantRange(t, "Tick of a hand that is alone to another", one.Tick(0, 1))
	if one.Flying() != 0 {
		t.Errorf("with an error %d fly", one.Flying())
	}
}

func TestTickOfEachTwoHands(t *testing.T) {
	for many := 2; many <= api.MaxNet; many++ {
		n := netOf(t, many)
		for i := range many {
			write(t, hand(t, n, i), "a", i)
		}
		var want []string
		for i := many - 1; i >= 0; i-- {
			for k := range many {
				if i == k {
					continue
				}
				must(t, n.Tick(i, k))
				want = append(want, fmt.Sprintf("%d %d [{%d 1}]", i, k, i+1))
				wantFlight(t, fmt.Sprint("Tick of ", i, k), n, want...)
			}
		}
	}
}

// What flies is just what a Talk says of the hand's book, and what is pending there is no part of it.
func TestTickAddsWhatIsSaid(t *testing.T) {
	n, book, talk := netOf(t, 2), netOf(t, 1).docs[0], sync.New()
	for i := range 4 {
		write(t, hand(t, n, 0), "a", i)
		write(t, book, "a", i)
		put(t, hand(t, n, 0), "b", i)
		before := lookAt(hand(t, n, 0))
		must(t, n.Tick(0, 1))
		if got := lookAt(hand(t, n, 0)); got != before {
			t.Errorf("Tick changed the hand: %s, was %s", got, before)
		}
		if got, want := n.flying[i].Bytes, talk.Say(book.Book()); !slices.Equal(got, want) {
			t.Errorf("Tick %d: %v flies, want %v", i, got, want)
		}
		hand(t, n, 0).Rollback()
	}
	wantFlight(t, "Ticks", n, "0 1 [{1 1}]", "0 1 [{1 2}]", "0 1 [{1 3}]", "0 1 [{1 4}]")
}

func TestTickWhereNothingIsSaid(t *testing.T) {
	n := netOf(t, 3)
	write(t, hand(t, n, 0), "a", 1)
	n.Calm()
	must(t, n.Tick(0, 1), n.Tick(1, 0), n.Tick(2, 0))
	wantFlight(t, "Ticks of hands that are content", n)
	write(t, hand(t, n, 1), "a", 2)
	must(t, n.Tick(0, 1), n.Tick(1, 0), n.Tick(2, 1), n.Tick(0, 2))
	wantFlight(t, "Ticks of which one says something", n, "1 0 [{2 1}]")
}

// What flies is as it was said, whatever its hand does since.
func TestWhatFliesStaysAsItWasSaid(t *testing.T) {
	n := netOf(t, 2)
	write(t, hand(t, n, 0), "a", 1)
	must(t, n.Tick(0, 1))
	for i := range 3 {
		write(t, hand(t, n, 0), "a", i)
	}
	must(t, n.Forget(0, 1), n.Forget(1, 0), n.Land(0), n.Tick(1, 0))
	m, err := sync.Read(n.flying[0].Bytes)
	if err != nil || !slices.Equal(m.Known, []api.Ref{{Actor: 1, Seq: 1}}) {
		t.Errorf("heard: %v, %v, want (1, 1)", m.Known, err)
	}
}

// four are the calls on what flies.
func four(n *Net) map[string]func(at int) error {
	return map[string]func(at int) error{
		"Land": n.Land, "Drop": n.Drop, "Twice": n.Twice,
		"Garble": func(at int) error { return n.Garble(at, 0, 255) },
	}
}

func TestWhereNothingFlies(t *testing.T) {
	for name := range four(netOf(t, 1)) {
		n := threeFlying(t)
		before := look(n)
		for _, at := range []int{math.MinInt, -3, -1, 3, 4, math.MaxInt} {
			wantRange(t, fmt.Sprint(name, " at ", at), four(n)[name](at))
		}
		wantUnchanged(t, name, n, before)
		for _, many := range []int{1, 2, api.MaxNet} {
			empty := netOf(t, many)
			for _, at := range []int{-1, 0, 1} {
				wantRange(t, fmt.Sprint(name, " at ", at, " where nothing flies at all"), four(empty)[name](at))
			}
		}
	}
}

// knows tells what a hand was told last by another one, by what it says to it.
func knows(t *testing.T, n *Net, i, k int) string {
	t.Helper()
	m, err := sync.Read(n.talks[[2]int{i, k}].Say(n.docs[i].Book()))
	if err != nil {
		t.Fatalf("what %d says to %d is not read: %v", i, k, err)
	}
	return fmt.Sprint(m.Knows, m.Known)
}

// wantKnown holds what hands know of each other against rows: who, of whom, what. All else is not known.
func wantKnown(t *testing.T, what string, n *Net, want map[[2]int]string) {
	t.Helper()
	for _, two := range n.pairs() {
		row := want[two]
		if row == "" {
			row = "false []"
		}
		if got := knows(t, n, two[0], two[1]); got != row {
			t.Errorf("%s: what %d knows of %d: %s, want %s", what, two[0], two[1], got, row)
		}
	}
}

func TestLand(t *testing.T) {
	rows := []struct {
		at, to int
		left   []string
		heard  [2]int
		known  string
	}{
		{0, 1, []string{"1 2 [{2 1}]", "2 0 [{3 1}]"}, [2]int{1, 0}, "true [{1 1}]"},
		{1, 2, []string{"0 1 [{1 1}]", "2 0 [{3 1}]"}, [2]int{2, 1}, "true [{2 1}]"},
		{2, 0, []string{"0 1 [{1 1}]", "1 2 [{2 1}]"}, [2]int{0, 2}, "true [{3 1}]"},
	}
	for _, row := range rows {
		n := threeFlying(t)
		must(t, n.Land(row.at))
		what := fmt.Sprint("Land at ", row.at)
		wantFlight(t, what, n, row.left...)
		for i := range 3 {
			want := 1
			if i == row.to {
				want = 0
			}
			if got := hand(t, n, i).Pending(); got != want {
				t.Errorf("%s: %d pending in hand %d, want %d", what, got, i, want)
			}
		}
		wantKnown(t, what, n, map[[2]int]string{row.heard: row.known})
	}
}

func TestLandBringsChanges(t *testing.T) {
	n := netOf(t, 3)
	write(t, hand(t, n, 0), "a", 5)
	must(t, n.Tick(1, 0), n.Land(0), n.Tick(0, 1))
	put(t, hand(t, n, 1), "b", 6)
	put(t, hand(t, n, 2), "c", 7)
	must(t, n.Land(0))
	for i, want := range []string{`{"a":5}`, `{"a":5}`, `{"c":7}`} {
		if got := hand(t, n, i).Text(); got != want {
			t.Errorf("hand %d reads %s, want %s", i, got, want)
		}
	}
	if hand(t, n, 1).Pending() != 0 || n.Flying() != 0 {
		t.Errorf("Land: %d pending, %d fly", hand(t, n, 1).Pending(), n.Flying())
	}
}

func TestLandInAnyOrder(t *testing.T) {
	n := netOf(t, 2)
	for i := range 3 {
		write(t, hand(t, n, 0), "a", i)
		must(t, n.Tick(0, 1))
	}
	for _, row := range []struct {
		at   int
		want string
	}{{2, "true [{1 3}]"}, {0, "true [{1 1}]"}, {0, "true [{1 2}]"}} {
		must(t, n.Land(row.at))
		if got := knows(t, n, 1, 0); got != row.want {
			t.Errorf("Land at %d: known is %s, want %s", row.at, got, row.want)
		}
	}
}

// A message that is garbled lands all the same: it flies no more, and what is pending is gone, but nothing is heard.
func TestLandOfWhatIsGarbled(t *testing.T) {
	n := threeFlying(t)
	for _, p := range n.flying {
		p.Bytes[0] ^= 1
	}
	book := fmt.Sprint(hand(t, n, 2).All())
	must(t, n.Land(1))
	wantFlight(t, "Land", n, "0 1 garbled", "2 0 garbled")
	if d := hand(t, n, 2); d.Pending() != 0 || fmt.Sprint(d.All()) != book {
		t.Errorf("Land of what is garbled: %s", lookAt(d))
	}
	if hand(t, n, 1).Pending() != 1 || hand(t, n, 0).Pending() != 1 {
		t.Errorf("Land rolled another hand back")
	}
	wantKnown(t, "Land of what is garbled", n, nil)
}

func TestDrop(t *testing.T) {
	for at, left := range [][]string{
		{"1 2 [{2 1}]", "2 0 [{3 1}]"},
		{"0 1 [{1 1}]", "2 0 [{3 1}]"},
		{"0 1 [{1 1}]", "1 2 [{2 1}]"},
	} {
		n := threeFlying(t)
		must(t, n.Drop(at))
		what := fmt.Sprint("Drop at ", at)
		wantFlight(t, what, n, left...)
		for i := range 3 {
			if got := hand(t, n, i).Pending(); got != 1 {
				t.Errorf("%s: %d pending in hand %d, want 1", what, got, i)
			}
		}
		wantKnown(t, what, n, nil)
	}
	n := threeFlying(t)
	must(t, n.Drop(0), n.Drop(1), n.Drop(0))
	wantFlight(t, "three Drops", n)
	wantRange(t, "one more", n.Drop(0))
}

func TestTwice(t *testing.T) {
	all := []string{"0 1 [{1 1}]", "1 2 [{2 1}]", "2 0 [{3 1}]"}
	for at := range 3 {
		n := threeFlying(t)
		must(t, n.Twice(at))
		wantFlight(t, fmt.Sprint("Twice at ", at), n, append(slices.Clone(all), all[at])...)
		if !slices.Equal(n.flying[at].Bytes, n.flying[3].Bytes) {
			t.Errorf("Twice at %d: %v and %v fly", at, n.flying[at].Bytes, n.flying[3].Bytes)
		}
		for i := range 3 {
			if got := hand(t, n, i).Pending(); got != 1 {
				t.Errorf("Twice at %d: %d pending in hand %d, want 1", at, got, i)
			}
		}
		must(t, n.Twice(3))
		wantFlight(t, "Twice of the other one", n, append(slices.Clone(all), all[at], all[at])...)
		wantKnown(t, "Twice", n, nil)
	}
}

// Of two that are alike each is one for itself.
func TestTwiceSharesNothing(t *testing.T) {
	for _, at := range []int{0, 3} {
		n := threeFlying(t)
		bytes := slices.Clone(n.flying[0].Bytes)
		must(t, n.Twice(0), n.Garble(at, 0, bytes[0]^1))
		other := n.flying[3-at].Bytes
		if !slices.Equal(other, bytes) || slices.Equal(n.flying[at].Bytes, bytes) {
			t.Errorf("Garble at %d: the other one is %v, was %v", at, other, bytes)
		}
		must(t, n.Drop(at))
		if n.Flying() != 3 {
			t.Errorf("Drop of one of two: %d fly", n.Flying())
		}
	}
}

func TestTwiceIsHeardTwice(t *testing.T) {
	n := threeFlying(t)
	must(t, n.Twice(0), n.Land(0), n.Forget(1, 0))
	put(t, hand(t, n, 1), "c", 1)
	must(t, n.Land(2))
	if got := knows(t, n, 1, 0); got != "true [{1 1}]" || hand(t, n, 1).Pending() != 0 {
		t.Errorf("the other one: known is %s, %d pending", got, hand(t, n, 1).Pending())
	}
	wantFlight(t, "both landed", n, "1 2 [{2 1}]", "2 0 [{3 1}]")
}

func TestGarble(t *testing.T) {
	for at := range 3 {
		many := len(threeFlying(t).flying[at].Bytes)
		for _, row := range [][2]int{
			{0, 0}, {1, 1}, {many - 1, many - 1}, {many, 0}, {many + 1, 1}, {2*many - 1, many - 1}, {1000 * many, 0},
			{-1, many - 1}, {-2, many - 2}, {1 - many, 1}, {-many, 0}, {-many - 1, many - 1}, {-1000*many + 3, 3},
			{math.MaxInt, math.MaxInt % many}, {math.MinInt, (math.MinInt%many + many) % many},
		} {
			for _, to := range []byte{0, 1, 127, 128, 255} {
				n := threeFlying(t)
				want := slices.Clone(n.flying[at].Bytes)
				want[row[1]] = to
				left := slices.Delete(flight(t, n), at, at+1)
				must(t, n.Garble(at, row[0], to))
				if got := n.flying[at].Bytes; !slices.Equal(got, want) {
					t.Errorf("Garble at %d, byte %d to %d: got %v, want %v", at, row[0], to, got, want)
				}
				if got := slices.Delete(flight(t, n), at, at+1); !slices.Equal(got, left) {
					t.Errorf("Garble at %d: the others are %v, were %v", at, got, left)
				}
			}
		}
	}
}

func TestGarbleChangesNoHand(t *testing.T) {
	n := threeFlying(t)
	var before []string
	for i := range 3 {
		before = append(before, lookAt(hand(t, n, i)))
	}
	must(t, n.Garble(0, 5, 200), n.Garble(2, -7, 201))
	for i := range 3 {
		if got := lookAt(hand(t, n, i)); got != before[i] {
			t.Errorf("Garble changed hand %d: %s, was %s", i, got, before[i])
		}
	}
	wantKnown(t, "Garble", n, nil)
}

// What is garbled, and then made what it was, is as it was.
func TestGarbleAndBack(t *testing.T) {
	n := threeFlying(t)
	was := n.flying[0].Bytes[2]
	must(t, n.Garble(0, 2, was+1))
	wantFlight(t, "Garble", n, "0 1 garbled", "1 2 [{2 1}]", "2 0 [{3 1}]")
	must(t, n.Garble(0, 2, was), n.Land(0))
	if got := knows(t, n, 1, 0); got != "true [{1 1}]" {
		t.Errorf("garbled and back: known is %s", got)
	}
}

// allTold is a net in which each hand has heard of each other one, and said nothing else since.
func allTold(t *testing.T) *Net {
	t.Helper()
	n := netOf(t, 3)
	for i := range 3 {
		write(t, hand(t, n, i), "a", i)
	}
	for _, two := range n.pairs() {
		must(t, n.Tick(two[0], two[1]))
	}
	for range n.Flying() {
		must(t, n.Land(0))
	}
	return n
}

func TestForget(t *testing.T) {
	for _, forgot := range netOf(t, 3).pairs() {
		n := allTold(t)
		put(t, hand(t, n, 0), "b", 1)
		must(t, n.Tick(0, 1))
		var before []string
		for i := range 3 {
			before = append(before, lookAt(hand(t, n, i)))
		}
		flying := flight(t, n)
		must(t, n.Forget(forgot[0], forgot[1]))
		wantFlight(t, "Forget", n, flying...)
		for i := range 3 {
			if got := lookAt(hand(t, n, i)); got != before[i] {
				t.Errorf("Forget of %v changed hand %d: %s, was %s", forgot, i, got, before[i])
			}
		}
		want := map[[2]int]string{}
		for _, two := range n.pairs() {
			if two != forgot {
				want[two] = fmt.Sprintf("true [{%d 1}]", two[1]+1)
			}
		}
		wantKnown(t, fmt.Sprint("Forget of ", forgot), n, want)
	}
}

func TestForgetOfNoTwoHands(t *testing.T) {
	n := threeFlying(t)
	must(t, n.Twice(0), n.Land(0))
	before := look(n)
	for _, two := range noTwo() {
		wantRange(t, fmt.Sprint("Forget of ", two), n.Forget(two[0], two[1]))
	}
	wantUnchanged(t, "Forget", n, before)
}

// Who forgot speaks again, where nothing was to be said.
func TestForgetLetsSpeakAgain(t *testing.T) {
	n := netOf(t, 2)
	write(t, hand(t, n, 0), "a", 1)
	n.Calm()
	must(t, n.Forget(1, 0), n.Tick(0, 1))
	wantFlight(t, "Tick of the one who did not forget", n)
	must(t, n.Tick(1, 0))
	wantFlight(t, "Tick of the one who forgot", n, "1 0 [{1 1}]")
}

// What is answered is the caller's: to write into it changes neither hands nor what flies.
func TestWhatIsAnsweredIsNotShared(t *testing.T) {
	n := allTold(t)
	must(t, n.Tick(0, 1), n.Tick(1, 2))
	before := look(n)
	for i := range 3 {
		d := hand(t, n, i)
		for _, c := range d.All() {
			c.Ops[0].Key = "z"
			c.Ops[0].Value.Num = 99
		}
		for k := range d.Heads() {
			d.Heads()[k].Seq = 77
		}
	}
	if got := look(n); got != before {
		t.Errorf("what was answered is shared: %s, was %s", got, before)
	}
}
