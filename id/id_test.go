package id

import (
	"math"
	"slices"
	"strings"
	"testing"

	"commonbook/api"
	"commonbook/plain"
)

// edges of all that is an id's number, actor or Seq.
var edges = []int{math.MinInt, -api.MaxNum, -1, 0, 1, 2, 98, 99, 100, 999_999, 1_000_000, 1_000_001, math.MaxInt}

func isOne(n, most int) bool { return 1 <= n && n <= most }

// refs of numbers: an actor, a Seq, and so on.
func refs(n ...int) []api.Ref {
	l := []api.Ref{}
	for i := 0; i < len(n); i += 2 {
		l = append(l, api.Ref{Actor: n[i], Seq: n[i+1]})
	}
	return l
}

// TestCheck: I1, an id is a number from 1 to 10^6 and an actor from 1 to 99, or the root.
func TestCheck(t *testing.T) {
	for _, num := range edges {
		for _, actor := range edges {
			want := api.ErrRange
			if isOne(num, 1_000_000) && isOne(actor, 99) || num == 0 && actor == 0 {
				want = api.OK
			}
			if got := plain.Told(Check(api.Id{Num: num, Actor: actor})); got != want {
				t.Errorf("Check of %d, %d: got %v, want %v", num, actor, got, want)
			}
		}
	}
}

// TestLess: I1, by Num, then Actor, whatever the numbers are.
func TestLess(t *testing.T) {
	var rising []api.Id
	for _, num := range edges {
		for _, actor := range edges {
			rising = append(rising, api.Id{Num: num, Actor: actor})
		}
	}
	for i, a := range rising {
		for k, b := range rising {
			if got := Less(a, b); got != (i < k) {
				t.Errorf("Less of %v, %v: got %v", a, b, got)
			}
		}
	}
	if !Less(api.Id{Num: 2, Actor: 9}, api.Id{Num: 3, Actor: 1}) {
		t.Error("Less of 2@9, 3@1: the document says yes")
	}
}

// TestName: I1, Num, an @, Actor; root; of what is none nothing.
func TestName(t *testing.T) {
	for _, c := range []struct {
		num, actor int
		want       string
	}{
		{12, 3, "12@3"},
		{1, 1, "1@1"},
		{10, 10, "10@10"},
		{1_000_000, 99, "1000000@99"},
		{0, 0, "root"},
		{0, 1, ""},
		{1, 0, ""},
		{-1, 1, ""},
		{1, -1, ""},
		{1_000_001, 1, ""},
		{1, 100, ""},
		{math.MinInt, math.MaxInt, ""},
	} {
		if got := Name(api.Id{Num: c.num, Actor: c.actor}); got != c.want {
			t.Errorf("Name of %d, %d: got %q, want %q", c.num, c.actor, got, c.want)
		}
	}
}

// TestParseUndoesName: I1, Parse gives the id of each name.
func TestParseUndoesName(t *testing.T) {
	ids := []api.Id{{}}
	for _, num := range []int{1, 2, 9, 10, 11, 99, 100, 101, 12345, 999_999, 1_000_000} {
		for actor := 1; actor <= 99; actor++ {
			ids = append(ids, api.Id{Num: num, Actor: actor})
		}
	}
	for _, a := range ids {
		if got, err := Parse(Name(a)); got != a || err != nil {
			t.Errorf("Parse of %q: got %v, %v, want %v", Name(a), got, err, a)
		}
	}
	if got, err := Parse("12@3"); got != (api.Id{Num: 12, Actor: 3}) || err != nil {
		t.Errorf("Parse of 12@3: got %v, %v", got, err)
	}
}

// TestParseRefuses: I1, ErrSyntax and the zero id of all that is no name.
func TestParseRefuses(t *testing.T) {
	for _, text := range []string{
		"", " ", "@", "@@", "1", "1@", "@1", "root@1", "1@root", "Root", "ROOT", "roo", "roots", " root", "root ", "root\n",
		"0@0", "0@1", "1@0", "00@0", "01@1", "1@01", "001@1", "1000000@099",
		"1000001@1", "1@100", "1000000000@1",
		"-1@1", "1@-1", "-0@0", "+1@1", "1@+1",
		" 1@1", "1@1 ", "1 @1", "1@ 1", "1@1\n", "1@1\x00", "\x001@1",
		"1@1@", "1@1@1", "@1@1", "1@@1", "1:1", "1.0@1", "1e1@1", "0x1@1", "1_0@1", "a@1", "1@a", "abc",
		"9223372036854775808@1", "18446744073709551617@1", "1@18446744073709551617",
		"\xff@1", "\u0661@1", "\\", "\x7f",
		strings.Repeat("9", 5000) + "@1", strings.Repeat("0", 5000) + "1@1", "1@" + strings.Repeat("1", 5000),
	} {
		if got, err := Parse(text); got != (api.Id{}) || plain.Told(err) != api.ErrSyntax {
			t.Errorf("Parse of %.40q: got %v, %v, want ErrSyntax", text, got, err)
		}
	}
}

// clocks that are none, and what is wrong with each.
var wrong = []struct {
	l    []api.Ref
	want api.Errno
}{
	{refs(0, 1), api.ErrRange},
	{refs(-1, 1), api.ErrRange},
	{refs(100, 1), api.ErrRange},
	{refs(1, 0), api.ErrRange},
	{refs(1, -1), api.ErrRange},
	{refs(1, 1_000_001), api.ErrRange},
	{refs(math.MinInt, math.MaxInt), api.ErrRange},
	{refs(0, 0), api.ErrRange},
	{refs(1, 1, 2, 1, 3, 0), api.ErrRange},
	{refs(1, 1, 1, 1), api.ErrOrder},
	{refs(1, 1, 1, 2), api.ErrOrder},
	{refs(2, 1, 1, 1), api.ErrOrder},
	{refs(1, 1, 3, 1, 2, 1), api.ErrOrder},
	{refs(99, 1, 1, 1_000_000), api.ErrOrder},
	// Both apply: the document names ErrRange first.
	{refs(2, 1, 1, 0), api.ErrRange},
	{refs(2, 1, 1, 1, 3, 0), api.ErrRange},
	{refs(2, 1, 2, 1, 100, 1), api.ErrRange},
}

// right are clocks.
var right = [][]api.Ref{
	nil,
	refs(),
	refs(1, 1),
	refs(99, 1_000_000),
	refs(1, 1_000_000, 99, 1),
	refs(1, 4, 2, 1),
	refs(2, 3),
	refs(1, 5, 2, 5, 3, 5, 50, 5, 98, 5, 99, 5),
}

// TestRefs: I2, what is a clock and what is none.
func TestRefs(t *testing.T) {
	for _, l := range right {
		if err := Refs(l); err != nil {
			t.Errorf("Refs of %v: got %v", l, err)
		}
	}
	for _, c := range wrong {
		if got := plain.Told(Refs(c.l)); got != c.want {
			t.Errorf("Refs of %v: got %v, want %v", c.l, got, c.want)
		}
	}
}

// TestJoin: I2, of each actor the greater of both.
func TestJoin(t *testing.T) {
	for _, c := range []struct{ a, b, want []api.Ref }{
		{refs(1, 4, 2, 1), refs(2, 3), refs(1, 4, 2, 3)},
		{nil, nil, nil},
		{refs(), refs(), nil},
		{nil, refs(7, 7), refs(7, 7)},
		{refs(7, 7), nil, refs(7, 7)},
		{refs(7, 7), refs(7, 7), refs(7, 7)},
		{refs(1, 1, 99, 1), refs(1, 1_000_000, 99, 1_000_000), refs(1, 1_000_000, 99, 1_000_000)},
		{refs(2, 9, 10, 1), refs(1, 2, 9, 3, 99, 4), refs(1, 2, 2, 9, 9, 3, 10, 1, 99, 4)},
		{refs(1, 3, 2, 2), refs(1, 2, 2, 3), refs(1, 3, 2, 3)},
	} {
		if got, err := Join(c.a, c.b); !slices.Equal(got, c.want) || err != nil {
			t.Errorf("Join of %v, %v: got %v, %v, want %v", c.a, c.b, got, err, c.want)
		}
		if got, err := Join(c.b, c.a); !slices.Equal(got, c.want) || err != nil {
			t.Errorf("Join of %v, %v: got %v, %v, want %v", c.b, c.a, got, err, c.want)
		}
	}
}

// TestCovers: I2, has a of each actor of b one as great?
func TestCovers(t *testing.T) {
	for _, c := range []struct {
		a, b []api.Ref
		want bool
	}{
		{nil, nil, true},
		{refs(), nil, true},
		{refs(1, 1), nil, true},
		{nil, refs(1, 1), false},
		{refs(1, 4, 2, 1), refs(1, 4, 2, 1), true},
		{refs(1, 4, 2, 1), refs(1, 3), true},
		{refs(1, 4, 2, 1), refs(2, 1), true},
		{refs(1, 4, 2, 1), refs(1, 5), false},
		{refs(1, 4, 2, 1), refs(2, 2), false},
		{refs(1, 4, 2, 1), refs(1, 1, 2, 1, 3, 1), false},
		{refs(1, 1_000_000), refs(99, 1), false},
		{refs(99, 1_000_000), refs(99, 1_000_000), true},
		{refs(99, 999_999), refs(99, 1_000_000), false},
	} {
		if got, err := Covers(c.a, c.b); got != c.want || err != nil {
			t.Errorf("Covers of %v, %v: got %v, %v, want %v", c.a, c.b, got, err, c.want)
		}
	}
}

// TestJoinIsTheLeastThatCoversBoth: I2, over all small clocks.
func TestJoinIsTheLeastThatCoversBoth(t *testing.T) {
	all := smallClocks()
	for _, a := range all {
		for _, b := range all {
			j, err := Join(a, b)
			if err != nil || Refs(j) != nil {
				t.Fatalf("Join of %v, %v: got %v, %v", a, b, j, err)
			}
			for _, c := range all {
				overA, _ := Covers(c, a)
				overB, _ := Covers(c, b)
				overJ, _ := Covers(c, j)
				if overJ != (overA && overB) {
					t.Fatalf("Join of %v, %v is %v: Covers of %v says %v, %v, %v", a, b, j, c, overA, overB, overJ)
				}
			}
		}
	}
}

// smallClocks of three actors, with Seqs up to 2.
func smallClocks() (all [][]api.Ref) {
	for n := range 27 {
		var l []api.Ref
		for i, seq := range []int{n % 3, n / 3 % 3, n / 9} {
			if seq > 0 {
				l = append(l, api.Ref{Actor: i + 1, Seq: seq})
			}
		}
		all = append(all, l)
	}
	return all
}

// TestWrongClocks: I2, Join and Covers say first what Refs does of a, then of b; P1, with an error nothing else.
func TestWrongClocks(t *testing.T) {
	for _, w := range wrong {
		for _, r := range right {
			checkBoth(t, w.l, r, w.want)
			checkBoth(t, r, w.l, w.want)
		}
		for _, x := range wrong {
			checkBoth(t, w.l, x.l, w.want)
		}
	}
}

func checkBoth(t *testing.T, a, b []api.Ref, want api.Errno) {
	t.Helper()
	if got, err := Join(a, b); len(got) != 0 || plain.Told(err) != want {
		t.Errorf("Join of %v, %v: got %v, %v, want %v", a, b, got, err, want)
	}
	if got, err := Covers(a, b); got || plain.Told(err) != want {
		t.Errorf("Covers of %v, %v: got %v, %v, want %v", a, b, got, err, want)
	}
}

// TestMemory: P2 and P4, nothing handed in is written into or kept, nor read or written behind its length.
func TestMemory(t *testing.T) {
	wholeA := refs(1, 4, 3, 1, 2, 9, 2, 9)
	wholeB := refs(3, 2, 4, 4, 0, 0, 0, 0)
	keptA, keptB := slices.Clone(wholeA), slices.Clone(wholeB)
	a, b := wholeA[:2], wholeB[:2]
	for _, c := range []struct{ a, b, want []api.Ref }{
		{a, b, refs(1, 4, 3, 2, 4, 4)},
		{a, b[:0], refs(1, 4, 3, 1)},
		{a[:0], b, refs(3, 2, 4, 4)},
	} {
		got, err := Join(c.a, c.b)
		if !slices.Equal(got, c.want) || err != nil {
			t.Fatalf("Join of %v, %v: got %v, %v, want %v", c.a, c.b, got, err, c.want)
		}
		if _, err := Covers(c.a, c.b); err != nil {
			t.Fatalf("Covers of %v, %v: got %v", c.a, c.b, err)
		}
		whole := got[:cap(got)]
		for i := range whole {
			whole[i] = api.Ref{Actor: 55, Seq: 55}
		}
		if !slices.Equal(wholeA, keptA) || !slices.Equal(wholeB, keptB) {
			t.Fatalf("Join of %v, %v shares memory with what it was handed", c.a, c.b)
		}
		if again, _ := Join(c.a, c.b); !slices.Equal(again, c.want) {
			t.Fatalf("Join of %v, %v, again: got %v, want %v", c.a, c.b, again, c.want)
		}
	}
}
