package pool

import (
	"fmt"
	"math"
	"reflect"
	"slices"
	"testing"

	"commonbook/api"
)

// wantTold asks all three calls for an error with which nothing else is told.
func wantTold(t testing.TB, what string, l books, want api.Errno, workers ...int) {
	t.Helper()
	for _, n := range workers {
		wantNoUnion(t, what, l, n, want)
		wantNoTexts(t, what, l, n, want)
	}
	wantNoCommon(t, what, l, want)
}

// offWorkers are numbers of workers that may not be.
func offWorkers() []int {
	return []int{0, 9, -1, -8, 1<<32 + 1, math.MaxInt, math.MinInt}
}

// wantToldAnyway asks for an error that is told ahead of what is wrong with the workers, by each number of them.
func wantToldAnyway(t testing.TB, what string, l books, want api.Errno) {
	t.Helper()
	wantTold(t, what, l, want, 1, 2, 3, 4, 5, 6, 7, 8)
	wantTold(t, what, l, want, offWorkers()...)
}

// fault is a book that is none.
type fault struct {
	what string
	l    []api.Change
	want api.Errno
}

func faults() []fault {
	ok := both(chain(1, 3, 0), chain(2, 1, 0))
	put := api.Op{Kind: api.Put, Key: "a"}
	other := ok[1]
	other.Start++
	behind := func(c api.Change) []api.Change { return append(slices.Clone(ok), c) }
	fits := func(deps []api.Ref, ops ...api.Op) []api.Change {
		return behind(api.Change{Actor: 4, Seq: 1, Start: 100, Deps: deps, Ops: ops})
	}
	return []fault{
		{"just one that is there", behind(ok[0]), api.ErrClash},
		{"just the last one", behind(ok[3]), api.ErrClash},
		{"another one with its Actor and Seq", behind(other), api.ErrClash},
		{"nothing but noughts", behind(api.Change{}), api.ErrState},
		{"nothing but noughts, alone", []api.Change{{}}, api.ErrState},
		{"no actor", behind(api.Change{Actor: 100, Seq: 1, Start: 1}), api.ErrState},
		{"numbers far off", behind(api.Change{Actor: math.MinInt, Seq: math.MaxInt, Start: math.MinInt}), api.ErrState},
		{"Deps that do not rise", fits(refs(2, 1, 1, 1)), api.ErrState},
		{"too many ops", fits(nil, slices.Repeat([]api.Op{put}, 41)...), api.ErrState},
		{"an op of no place", fits(nil, api.Op{Kind: api.Put}), api.ErrState},
		{"it waits", fits(refs(5, 1), put), api.ErrState},
		{"it waits for itself", fits(refs(4, 1), put), api.ErrState},
		{"its actor's first is not there", behind(api.Change{Actor: 4, Seq: 2, Start: 100}), api.ErrState},
		{"its Start is not above all", behind(api.Change{Actor: 4, Seq: 1, Start: 1, Deps: refs(1, 1), Ops: []api.Op{put}}), api.ErrState},
		{"an object that it does not hang on", fits(refs(1, 1), api.Op{Kind: api.Put, Obj: api.Id{Num: 1, Actor: 1}, Key: "a"}), api.ErrState},
		{"it comes ahead of what it hangs on", []api.Change{ok[1], ok[0]}, api.ErrState},
		{"more than a Book takes", chain(1, most+1, 0), api.ErrState},
		{"many more than a Book takes", both(chain(1, most, 0), chain(2, most, 0)), api.ErrState},
	}
}

// O1: chapter 7's errors of a book, wherever it stands.
func TestNoBook(t *testing.T) {
	ok := chain(1, 2, 0)
	for _, f := range faults() {
		for _, many := range []int{1, 3, maxBooks} {
			for _, at := range []int{0, many / 2, many - 1} {
				l := slices.Repeat(books{ok}, many)
				l[at] = f.l
				wantToldAnyway(t, fmt.Sprint(f.what, ", in the book at ", at, " of ", many), l, f.want)
			}
		}
		wantToldAnyway(t, f.what+", in all", slices.Repeat(books{f.l}, 4), f.want)
		wantToldAnyway(t, f.what+", among empty ones", books{nil, {}, f.l, nil}, f.want)
	}
}

// O1: of several books that have errors the first one's is told.
func TestFirstBook(t *testing.T) {
	ok := chain(1, 2, 0)
	// This one's error is seen by far the last, if several read at once.
	slow := both(chain(7, most-1, 0), chain(7, 1, 0))
	for _, f := range faults() {
		for _, g := range faults() {
			what := f.what + ", then " + g.what
			wantTold(t, what, books{f.l, g.l}, f.want, 1, 8)
			wantTold(t, what+", apart", books{ok, f.l, nil, ok, g.l, ok}, f.want, 0, 2)
		}
		wantTold(t, "slow, then "+f.what, books{slow, f.l, ok, f.l}, api.ErrClash, 1, 2, 3, 8, 9)
		wantTold(t, f.what+", then slow", books{f.l, ok, slow, slow}, f.want, 1, 2, 3, 8, 9)
	}
}

// O1: ErrFull: more than 20 books, ahead of all that is wrong with them, and with the workers.
func TestTooManyBooks(t *testing.T) {
	ok := chain(1, 2, 0)
	for _, many := range []int{maxBooks + 1, maxBooks + 2, 40, 1000} {
		wantToldAnyway(t, "too many", slices.Repeat(books{ok}, many), api.ErrFull)
		wantToldAnyway(t, "too many empty ones", make(books, many), api.ErrFull)
		wantToldAnyway(t, "too many unlike ones", append(slices.Repeat(books{ok}, many-1), chain(1, 2, 7)), api.ErrFull)
		for _, f := range faults() {
			wantToldAnyway(t, "too many, "+f.what, append(books{f.l}, make(books, many-1)...), api.ErrFull)
		}
	}
	l := slices.Repeat(books{ok}, 21)
	wantToldAnyway(t, "21", l, api.ErrFull)
	wantUnion(t, "20 of 21", l[:20], ok)
	wantTexts(t, "20 of 21", l[:20], slices.Repeat([]string{`{"k1":1}`}, 20)...)
	wantCommon(t, "20 of 21", l[:20], refs(1, 1, 1, 2))
}

// O1: ErrRange: workers are not from 1 to 8, whatever the books.
func TestRange(t *testing.T) {
	one := chain(1, 2, 0)
	for _, workers := range offWorkers() {
		for _, l := range []books{nil, {}, {nil}, {one}, {one, one}, slices.Repeat(books{one}, maxBooks), make(books, maxBooks)} {
			wantNoUnion(t, "off", l, workers, api.ErrRange)
			wantNoTexts(t, "off", l, workers, api.ErrRange)
		}
	}
}

// O1: ErrRange ahead of what a Book says of all together.
func TestRangeAhead(t *testing.T) {
	clashing := books{chain(1, 2, 0), chain(1, 2, 1)}
	filling := books{chain(1, most, 0), chain(2, 1, 0)}
	for _, workers := range offWorkers() {
		wantNoUnion(t, "they clash", clashing, workers, api.ErrRange)
		wantNoUnion(t, "they fill it", filling, workers, api.ErrRange)
	}
	for workers := 1; workers <= maxWorkers; workers++ {
		wantNoUnion(t, "they clash", clashing, workers, api.ErrClash)
		wantNoUnion(t, "they fill it", filling, workers, api.ErrFull)
	}
}

// wantClash asks Union alone for ErrClash; the other calls have nothing to say against such books.
func wantClash(t testing.TB, what string, l books) {
	t.Helper()
	wantUnionTold(t, what, l, api.ErrClash)
}

func wantUnionTold(t testing.TB, what string, l books, want api.Errno) {
	t.Helper()
	for _, workers := range []int{1, 2, 3, 8, 8} {
		wantNoUnion(t, what, l, workers, want)
	}
	if got, err := Texts(l, 8); len(got) != len(l) || err != nil {
		t.Errorf("%s: Texts: got %v, %v", what, got, err)
	}
	if _, err := Common(l); err != nil {
		t.Errorf("%s: Common: got %v", what, err)
	}
}

// O1: ErrClash: two books have unlike changes with one Actor and Seq, wherever they stand.
func TestClash(t *testing.T) {
	one, two := both(chain(1, 3, 0), chain(2, 1, 0)), both(chain(2, 1, 0), chain(1, 3, 1))
	for _, many := range []int{2, 3, 5, maxBooks} {
		for from := range many {
			for to := range many {
				l := slices.Repeat(books{chain(3, 2, 0)}, many)
				l[from] = one
				if from != to {
					l[to] = two
					wantClash(t, fmt.Sprint("at ", from, " and ", to, " of ", many), l)
				}
			}
		}
	}
	wantClash(t, "each with the one ahead", books{chain(1, 1, 0), chain(1, 1, 1), chain(1, 1, 2)})
	wantClash(t, "the last of many", books{chain(1, most, 0), append(chain(1, most-1, 0), chain(1, most, 1)[most-1])})
}

// O1: what makes changes unlike.
func TestUnlike(t *testing.T) {
	of := func(c api.Change) []api.Change { return append(chain(1, 1, 0), c) }
	c := api.Change{Actor: 2, Seq: 1, Start: 2, Deps: refs(1, 1), Ops: []api.Op{
		{Kind: api.Put, Key: "k1", Value: number(5), Preds: []api.Id{{Num: 1, Actor: 1}}},
		{Kind: api.Put, Key: "k", Value: number(6)},
	}}
	for what, change := range map[string]func(c *api.Change){
		"its Start":       func(c *api.Change) { c.Start++ },
		"its Deps":        func(c *api.Change) { c.Deps, c.Ops[0].Preds = nil, nil },
		"its Preds":       func(c *api.Change) { c.Ops[0].Preds = nil },
		"a Key":           func(c *api.Change) { c.Ops[1].Key = "l" },
		"a Value":         func(c *api.Change) { c.Ops[1].Value.Num++ },
		"a Kind":          func(c *api.Change) { c.Ops[1].Kind, c.Ops[1].Value = api.Make, api.Value{Kind: api.Map} },
		"an op more":      func(c *api.Change) { c.Ops = append(c.Ops, c.Ops[1]) },
		"an op less":      func(c *api.Change) { c.Ops = c.Ops[:1] },
		"no ops":          func(c *api.Change) { c.Ops = nil },
		"the ops' order":  func(c *api.Change) { slices.Reverse(c.Ops) },
		"a value's kind":  func(c *api.Change) { c.Ops[1].Value.Kind = api.Count },
		"a Del for a Put": func(c *api.Change) { c.Ops[0].Kind, c.Ops[0].Value = api.Del, api.Value{} },
	} {
		other := plainly([]api.Change{c})[0]
		change(&other)
		if what == "its Deps" {
			wantCommon(t, what, books{of(c), {other}}, refs(2, 1))
		} else {
			wantCommon(t, what, books{of(c), of(other)}, refs(1, 1, 2, 1))
		}
		wantClash(t, what, books{of(c), of(other)})
		wantClash(t, what+", the other way round", books{of(other), of(c)})
	}
	same := plainly([]api.Change{c})[0]
	wantUnion(t, "the same in other memory", books{of(c), of(same)}, of(c))
}

// O1: ErrFull: together they are more than a Book takes.
func TestFull(t *testing.T) {
	one := chain(1, most, 0)
	wantUnionTold(t, "one too many", books{one, chain(2, 1, 0)}, api.ErrFull)
	wantUnionTold(t, "one too many, ahead", books{chain(2, 1, 0), one}, api.ErrFull)
	wantUnionTold(t, "one too many, at last", append(slices.Repeat(books{one}, maxBooks-1), chain(2, 1, 0)), api.ErrFull)
	wantUnion(t, "just as many", books{one[:most-1], chain(2, 1, 0)}, both(one[:most-1], chain(2, 1, 0)))
	var l books
	for actor := 1; actor <= maxBooks; actor++ {
		l = append(l, chain(actor, 7, 0))
	}
	wantUnionTold(t, "7 of each of 20", l, api.ErrFull)
	wantUnion(t, "7 of each of 17", l[:17], slices.Concat(l[:17]...))
	wantUnionTold(t, "7 of each of 18", l[:18], api.ErrFull)
	for i := range l {
		l[i] = l[i][:6]
	}
	wantUnion(t, "6 of each of 20", l, slices.Concat(l...))
}

// O1: the first error of Take, book by book, each in the order of All.
func TestFirstOfTake(t *testing.T) {
	one, five, nine := chain(1, 1, 0), chain(5, most-1, 0), chain(9, 2, 0)
	other := chain(1, 1, 7)
	full, without := both(one, five), both(five, nine[:1])
	for _, c := range []struct {
		what string
		l    books
		want api.Errno
	}{
		{"the unlike one is first by Ref", books{full, both(other, nine)}, api.ErrClash},
		{"the unlike one is first by Ref, but comes last", books{full, both(nine, other)}, api.ErrClash},
		{"the new one is first by Ref", books{without, both(one, chain(9, 1, 7))}, api.ErrFull},
		{"the new one is first by Ref, but comes last", books{without, both(chain(9, 1, 7), one)}, api.ErrFull},
		{"the new one is in an earlier book", books{full, nine, other}, api.ErrFull},
		{"the unlike one is in an earlier book", books{full, other, nine}, api.ErrClash},
		{"the unlike one, of itself", books{full, other}, api.ErrClash},
		{"what is there, then the new one", books{full, full, both(one, nine), other}, api.ErrFull},
		{"what is there, then the unlike one", books{full, full, both(one, chain(5, 1, 7)), nine}, api.ErrClash},
	} {
		wantUnionTold(t, c.what, c.l, c.want)
	}
}

// O1: a wrong book is told of ahead of what a Book says of all together.
func TestBookAhead(t *testing.T) {
	for _, f := range faults() {
		wantToldAnyway(t, "they clash, "+f.what, books{chain(1, 2, 0), chain(1, 2, 1), f.l}, f.want)
		wantToldAnyway(t, "they fill it, "+f.what, books{chain(1, most, 0), chain(2, 1, 0), f.l}, f.want)
	}
}

// O1: what is handed in is not changed, nor what stands behind it.
func TestNotChanged(t *testing.T) {
	one, two := both(chain(1, 5, 0), chain(2, 2, 0)), both(chain(2, 4, 0), chain(1, 2, 0))
	behind := books{one[:6:7], two, {{Actor: 7}}, one}
	var want books
	for _, l := range behind {
		want = append(want, plainly(l))
	}
	tail := plainly(one)
	for workers := -1; workers <= maxWorkers+1; workers++ {
		for many := range 5 {
			_, _ = Union(behind[:many], workers)
			_, _ = Texts(behind[:many], workers)
			_, _ = Common(behind[:many])
		}
	}
	for i, l := range behind {
		if !reflect.DeepEqual(plainly(l), want[i]) {
			t.Errorf("the book at %d was changed: %v, was %v", i, l, want[i])
		}
	}
	if !reflect.DeepEqual(plainly(one), tail) {
		t.Error("what stands behind a book was changed")
	}
}

// spoil writes over all that changes are made of.
func spoil(l []api.Change) {
	for i := range l {
		for j := range l[i].Ops {
			clear(l[i].Ops[j].Preds[:cap(l[i].Ops[j].Preds)])
		}
		clear(l[i].Ops[:cap(l[i].Ops)])
		clear(l[i].Deps[:cap(l[i].Deps)])
	}
	clear(l[:cap(l)])
}

// O1: what comes out is the caller's, and shares nothing with what went in, nor with another answer.
func TestNotShared(t *testing.T) {
	for workers := 1; workers <= maxWorkers; workers++ {
		want := both(chain(1, 5, 0), chain(2, 4, 0))
		one, two := plainly(want[:7]), both(plainly(want[:3]), plainly(want[5:]))
		l := books{one, two}
		first, err := Union(l, workers)
		must(t, err)
		second, err := Union(l, workers)
		must(t, err)
		spoil(first)
		if !reflect.DeepEqual(plainly(second), plainly(want)) {
			t.Errorf("Union by %d: got %v after another answer was spoilt", workers, second)
		}
		texts, err := Texts(l, workers)
		must(t, err)
		clear(texts)
		common, err := Common(l)
		must(t, err)
		again, err := Common(l)
		must(t, err)
		clear(common[:cap(common)])
		if !slices.Equal(again, refs(1, 1, 1, 2, 1, 3, 2, 1, 2, 2)) {
			t.Errorf("Common: got %v after another answer was spoilt", again)
		}
		wantUnion(t, "after answers were spoilt", l, want)
		wantTexts(t, "after answers were spoilt", l, `{"k1":4,"k2":1}`, `{"k1":2,"k2":3}`)
		spoil(one)
		spoil(two)
		if !reflect.DeepEqual(plainly(second), plainly(want)) {
			t.Errorf("Union by %d: got %v after what was handed in was spoilt", workers, second)
		}
	}
}
