package dag

import (
	"fmt"
	"math"
	"math/rand"
	"reflect"
	"slices"
	"testing"

	"commonbook/api"
	"commonbook/plain"
)

// refs of numbers: an actor, a Seq, and so on.
func refs(n ...int) (l []api.Ref) {
	for i := 0; i < len(n); i += 2 {
		l = append(l, api.Ref{Actor: n[i], Seq: n[i+1]})
	}
	return l
}

// ids of numbers: a number, an actor, and so on.
func ids(n ...int) (l []api.Id) {
	for i := 0; i < len(n); i += 2 {
		l = append(l, api.Id{Num: n[i], Actor: n[i+1]})
	}
	return l
}

func number(n int) api.Value { return api.Value{Kind: api.Number, Num: n} }

func count(n int) api.Value { return api.Value{Kind: api.Count, Num: n} }

func object(kind int) api.Value { return api.Value{Kind: kind} }

func put(key string, n int, preds ...api.Id) api.Op {
	return api.Op{Kind: api.Put, Key: key, Value: number(n), Preds: preds}
}

// plainChange has one op, which leans on nothing.
func plainChange(actor, seq, start int, deps ...int) api.Change {
	return api.Change{Actor: actor, Seq: seq, Start: start, Deps: refs(deps...), Ops: []api.Op{put("a", actor)}}
}

// misfit leans on an op that is not there.
func misfit(actor, seq, start int, deps ...int) api.Change {
	c := plainChange(actor, seq, start, deps...)
	c.Ops[0].Preds = ids(start, actor)
	return c
}

// told takes changes and gives what each Take tells.
func told(b *Book, l ...api.Change) (out []api.Errno) {
	for _, c := range l {
		out = append(out, plain.Told(b.Take(c)))
	}
	return out
}

// bookOf takes changes that all are taken.
func bookOf(t *testing.T, l ...api.Change) *Book {
	t.Helper()
	b := New()
	for i, c := range l {
		if err := b.Take(c); err != nil {
			t.Fatalf("Take of change %d, %v: got %v", i, refOf(c), err)
		}
	}
	return b
}

func order(b *Book) (l []api.Ref) {
	for _, c := range b.All() {
		l = append(l, refOf(c))
	}
	return l
}

// look is all that can be told of a book.
func look(b *Book) string {
	missing, err := b.Missing(nil)
	return fmt.Sprint(b.All(), b.Heads(), b.Waiting(), missing, err)
}

func wantRefs(t *testing.T, what string, got, want []api.Ref) {
	t.Helper()
	if !slices.Equal(got, want) {
		t.Errorf("%s: got %v, want %v", what, got, want)
	}
}

func wantTold(t *testing.T, what string, err error, want api.Errno) {
	t.Helper()
	if got := plain.Told(err); got != want {
		t.Errorf("%s: got %v, want %v", what, got, want)
	}
}

// chain of one actor, each hanging on the one ahead.
func chain(actor, many int) (l []api.Change) {
	for i := range many {
		c := plainChange(actor, i+1, i+1)
		if i > 0 {
			c.Deps = refs(actor, i)
		}
		l = append(l, c)
	}
	return l
}

// diamond: 2:1 and 3:1 hang on 1:1, 1:2 on both.
func diamond() []api.Change {
	return []api.Change{
		plainChange(1, 1, 1),
		plainChange(2, 1, 2, 1, 1),
		plainChange(3, 1, 2, 1, 1),
		plainChange(1, 2, 3, 2, 1, 3, 1),
	}
}

// orders calls with each order of the numbers below many.
func orders(many int, call func([]int)) {
	l := make([]int, 0, many)
	var more func()
	more = func() {
		if len(l) == many {
			call(l)
			return
		}
		for i := range many {
			if !slices.Contains(l, i) {
				l = append(l, i)
				more()
				l = l[:len(l)-1]
			}
		}
	}
	more()
}

// TestEmpty: D1 and D3, a book is empty at first.
func TestEmpty(t *testing.T) {
	b := New()
	if len(b.All())+len(b.Waiting())+len(b.Heads()) != 0 {
		t.Error("an empty book has something:", look(b))
	}
	if b.Has(api.Ref{Actor: 1, Seq: 1}) || b.Has(api.Ref{}) {
		t.Error("an empty book has a change")
	}
	c, err := b.Change(api.Ref{Actor: 1, Seq: 1})
	if wantTold(t, "Change", err, api.ErrNone); !reflect.DeepEqual(c, api.Change{}) {
		t.Errorf("Change with an error: got %v", c)
	}
	for _, none := range [][]api.Ref{nil, {}} {
		behind, err := b.Behind(none)
		if wantTold(t, "Behind of none", err, api.OK); len(behind) != 0 {
			t.Errorf("Behind of none: got %v", behind)
		}
		missing, err := b.Missing(none)
		if wantTold(t, "Missing of none", err, api.OK); len(missing) != 0 {
			t.Errorf("Missing of none: got %v", missing)
		}
	}
	if New() == New() {
		t.Error("two books are one")
	}
}

// TestTwoBooks: D1, what one book takes another one has not.
func TestTwoBooks(t *testing.T) {
	a, b := New(), New()
	told(a, plainChange(1, 1, 1), plainChange(2, 1, 1, 3, 1))
	if got, want := look(b), look(New()); got != want {
		t.Errorf("another book: got %s, want %s", got, want)
	}
}

// TestTakeChecks: D1, what chapter 4 says of a change is told first, and nothing is changed.
func TestTakeChecks(t *testing.T) {
	b := bookOf(t, plainChange(1, 1, 1), plainChange(2, 2, 1, 9, 9))
	before := look(b)
	for what, c := range map[string]struct {
		c    api.Change
		want api.Errno
	}{
		"no actor":          {plainChange(0, 1, 1), api.ErrRange},
		"an actor above":    {plainChange(api.MaxActor+1, 1, 1), api.ErrRange},
		"no Seq":            {plainChange(3, 0, 1), api.ErrRange},
		"Seq above":         {plainChange(3, api.MaxNum+1, 1), api.ErrRange},
		"Seq far below":     {plainChange(3, math.MinInt, 1), api.ErrRange},
		"Start far above":   {plainChange(3, 1, math.MaxInt), api.ErrRange},
		"Deps fall":         {plainChange(3, 1, 2, 2, 2, 1, 1), api.ErrOrder},
		"Deps have no Seq":  {plainChange(3, 1, 2, 1, 0), api.ErrRange},
		"too many Deps":     {api.Change{Actor: 3, Seq: 1, Start: 1, Deps: make([]api.Ref, api.MaxDeps+1)}, api.ErrFull},
		"too many Ops":      {api.Change{Actor: 3, Seq: 1, Start: 1, Ops: make([]api.Op, api.MaxOps+1)}, api.ErrFull},
		"no kind":           {api.Change{Actor: 3, Seq: 1, Start: 1, Ops: []api.Op{{Key: "a"}}}, api.ErrRange},
		"Del without Preds": {api.Change{Actor: 3, Seq: 1, Start: 1, Ops: []api.Op{{Kind: api.Del, Key: "a"}}}, api.ErrShape},
		"ahead of a clash":  {api.Change{Actor: 1, Seq: 1, Start: 1, Ops: []api.Op{{Kind: api.Put}}}, api.ErrShape},
		"ahead of waiting":  {api.Change{Actor: 3, Seq: 1, Start: 1, Deps: refs(7, 7), Ops: []api.Op{{Kind: api.Put}}}, api.ErrShape},
	} {
		wantTold(t, what, b.Take(c.c), c.want)
		if got := look(b); got != before {
			t.Errorf("%s: the book is another one: got %s, want %s", what, got, before)
		}
	}
}

// others are changes with the Actor and Seq of c, each unlike it in one thing.
func others(c api.Change) []api.Change {
	var l []api.Change
	add := func(change func(*api.Change)) {
		o := copyOf(c)
		change(&o)
		l = append(l, o)
	}
	add(func(o *api.Change) { o.Start++ })
	add(func(o *api.Change) { o.Deps[0].Seq++ })
	add(func(o *api.Change) { o.Deps = o.Deps[:len(o.Deps)-1] })
	add(func(o *api.Change) { o.Deps = append(o.Deps, api.Ref{Actor: 99, Seq: 1}) })
	add(func(o *api.Change) { o.Ops = o.Ops[:len(o.Ops)-1] })
	add(func(o *api.Change) { o.Ops = append(o.Ops, put("z", 1)) })
	add(func(o *api.Change) { o.Ops = nil })
	add(func(o *api.Change) { o.Ops[0].Kind = api.Make; o.Ops[0].Value = object(api.Map) })
	add(func(o *api.Change) { o.Ops[1].Kind = api.Inc })
	add(func(o *api.Change) { o.Ops[0].Obj = api.Id{Num: 1, Actor: 1} })
	add(func(o *api.Change) { o.Ops[0].Key = "b" })
	add(func(o *api.Change) { o.Ops[0].Value.Num++ })
	add(func(o *api.Change) { o.Ops[0].Value.Kind = api.Count })
	add(func(o *api.Change) { o.Ops[0].Value = api.Value{Kind: api.Text, Text: "7"} })
	add(func(o *api.Change) { o.Ops[2].Elem.Num++ })
	add(func(o *api.Change) { o.Ops[2].Insert = false })
	add(func(o *api.Change) { o.Ops[1].Preds = ids(3, 1) })
	add(func(o *api.Change) { o.Ops[1].Preds = nil })
	add(func(o *api.Change) { o.Ops[1].Preds = ids(1, 1, 2, 1) })
	return l
}

// listBook has 1:1: a number at a, a list at l, and one thing in it.
func listBook() api.Change {
	return api.Change{Actor: 1, Seq: 1, Start: 1, Ops: []api.Op{
		put("a", 1),
		{Kind: api.Make, Key: "l", Value: object(api.List)},
		{Kind: api.Put, Obj: api.Id{Num: 2, Actor: 1}, Insert: true, Value: number(1)},
	}}
}

// onListBook hangs on listBook.
func onListBook() api.Change {
	return api.Change{Actor: 2, Seq: 1, Start: 4, Deps: refs(1, 1), Ops: []api.Op{
		put("c", 7),
		put("a", 2, api.Id{Num: 1, Actor: 1}),
		{Kind: api.Put, Obj: api.Id{Num: 2, Actor: 1}, Elem: api.Id{Num: 3, Actor: 1}, Insert: true, Value: number(2)},
	}}
}

// TestTwice: D1, a change that the book has, or that waits, is taken and changes nothing; another one with its Actor and Seq clashes.
func TestTwice(t *testing.T) {
	c := onListBook()
	for what, b := range map[string]*Book{
		"in the book": bookOf(t, listBook(), c),
		"waiting":     bookOf(t, c),
	} {
		before := look(b)
		wantTold(t, what, b.Take(c), api.OK)
		empty := copyOf(c)
		empty.Ops[0].Preds = []api.Id{}
		wantTold(t, what+", with an empty list for nil", b.Take(empty), api.OK)
		for i, o := range others(c) {
			wantTold(t, fmt.Sprint(what, ", another one, ", i), b.Take(o), api.ErrClash)
		}
		if got := look(b); got != before {
			t.Errorf("%s: the book is another one: got %s, want %s", what, got, before)
		}
	}
}

// TestClashAheadOfState: D1, another one that would not fit clashes, or would wait.
func TestClashAheadOfState(t *testing.T) {
	b := bookOf(t, plainChange(1, 1, 1))
	wantTold(t, "no fit", b.Take(misfit(1, 1, 1)), api.ErrClash)
	wantTold(t, "would wait", b.Take(plainChange(1, 1, 1, 5, 5)), api.ErrClash)
	wantTold(t, "no fit, of another actor", b.Take(misfit(2, 1, 1)), api.ErrState)
	wantTold(t, "no fit and Deps that are not there", b.Take(misfit(2, 1, 1, 5, 5)), api.OK)
	wantTold(t, "one that waits, now fit to come in", b.Take(plainChange(2, 1, 1)), api.ErrClash)
}

// TestFull: D1, 120 changes are in it and waiting, and no more.
func TestFull(t *testing.T) {
	l := chain(1, api.MaxChanges+1)
	b := bookOf(t, l[:api.MaxChanges]...)
	before := look(b)
	extra := l[api.MaxChanges]
	wantTold(t, "one more", b.Take(extra), api.ErrFull)
	wantTold(t, "one more that would wait", b.Take(plainChange(3, 1, 1, 2, 1)), api.ErrFull)
	wantTold(t, "one more that does not fit", b.Take(misfit(2, 1, 1)), api.ErrFull)
	wantTold(t, "one that is none", b.Take(api.Change{}), api.ErrRange)
	wantTold(t, "one that it has", b.Take(l[7]), api.OK)
	wantTold(t, "another one", b.Take(plainChange(1, 8, 50)), api.ErrClash)
	if got := look(b); got != before || len(b.All()) != 120 {
		t.Errorf("a full book has changed: it has %d", len(b.All()))
	}
}

// TestFullWaiting: D1, what waits counts, and comes in when all are there.
func TestFullWaiting(t *testing.T) {
	l := chain(1, api.MaxChanges)
	b := bookOf(t, l[:50]...)
	for i := 51; i < 120; i++ {
		wantTold(t, "one that waits", b.Take(l[i]), api.OK)
	}
	if has, waits := len(b.All()), len(b.Waiting()); has != 50 || waits != 69 {
		t.Fatalf("in the book %d, waiting %d", has, waits)
	}
	wantTold(t, "the last one", b.Take(l[50]), api.OK)
	if has, waits := len(b.All()), len(b.Waiting()); has != 120 || waits != 0 {
		t.Errorf("in the book %d, waiting %d", has, waits)
	}
	wantTold(t, "one more", b.Take(plainChange(2, 1, 1)), api.ErrFull)
}

// TestFullOfWaiting: D1, what is dropped makes room.
func TestFullOfWaiting(t *testing.T) {
	b := New()
	for i := range 98 {
		wantTold(t, "no fit", b.Take(misfit(i+2, 1, 5, 1, 1)), api.OK)
	}
	l := chain(1, 23)
	for _, c := range l[1:22] {
		wantTold(t, "a chain", b.Take(c), api.OK)
	}
	wantTold(t, "119 wait, and one more", b.Take(l[22]), api.OK)
	wantTold(t, "120 wait", b.Take(l[0]), api.ErrFull)
	if len(b.Waiting()) != 120 || len(b.All()) != 0 {
		t.Errorf("in the book %d, waiting %d", len(b.All()), len(b.Waiting()))
	}

	b = New()
	for i := range 98 {
		wantTold(t, "no fit", b.Take(misfit(i+2, 1, 5, 1, 1)), api.OK)
	}
	for _, c := range l[1:22] {
		wantTold(t, "a chain", b.Take(c), api.OK)
	}
	wantTold(t, "that on which all hang", b.Take(l[0]), api.OK)
	if len(b.Waiting()) != 0 || len(b.All()) != 22 {
		t.Errorf("in the book %d, waiting %d", len(b.All()), len(b.Waiting()))
	}
	wantTold(t, "there is room", b.Take(l[22]), api.OK)
}

// TestWaits: D1, a change waits till all its Deps are there.
func TestWaits(t *testing.T) {
	l := diamond()
	b := bookOf(t, l[3])
	wantRefs(t, "Waiting", b.Waiting(), refs(1, 2))
	if b.Has(api.Ref{Actor: 1, Seq: 2}) || len(b.Heads()) != 0 || len(b.All()) != 0 {
		t.Error("what waits is in the book:", look(b))
	}
	_, err := b.Change(api.Ref{Actor: 1, Seq: 2})
	wantTold(t, "Change of one that waits", err, api.ErrNone)
	_, err = b.Behind(refs(1, 2))
	wantTold(t, "Behind of one that waits", err, api.ErrNone)

	told(b, l[1])
	wantRefs(t, "Waiting", b.Waiting(), refs(1, 2, 2, 1))
	told(b, l[0])
	wantRefs(t, "Waiting, one of two there", b.Waiting(), refs(1, 2))
	wantRefs(t, "in the book", order(b), refs(1, 1, 2, 1))
	told(b, l[2])
	wantRefs(t, "Waiting, all there", b.Waiting(), nil)
	wantRefs(t, "in the book", order(b), refs(1, 1, 2, 1, 3, 1, 1, 2))
}

// TestWaitsForever: D1, what hangs on itself, or in a ring, waits.
func TestWaitsForever(t *testing.T) {
	b := bookOf(t, plainChange(4, 1, 9), plainChange(1, 1, 1, 1, 1), plainChange(2, 1, 1, 3, 1), plainChange(3, 1, 1, 2, 1), plainChange(5, 1, 10, 4, 1))
	wantRefs(t, "Waiting", b.Waiting(), refs(1, 1, 2, 1, 3, 1))
	wantRefs(t, "in the book", order(b), refs(4, 1, 5, 1))
	missing, err := b.Missing(refs(1, 1, 2, 1))
	wantTold(t, "Missing", err, api.OK)
	wantRefs(t, "Missing", missing, nil)
}

// TestWakesSeveral: D1, all that wait for one come in with it, and what waits for those, whichever is first by Ref.
func TestWakesSeveral(t *testing.T) {
	l := []api.Change{
		plainChange(5, 1, 1),
		plainChange(9, 1, 2, 5, 1),
		plainChange(2, 1, 2, 5, 1),
		plainChange(1, 1, 3, 9, 1),
		plainChange(2, 2, 4, 1, 1, 2, 1),
	}
	want := look(bookOf(t, l...))
	orders(len(l), func(at []int) {
		b := New()
		for _, i := range at {
			wantTold(t, fmt.Sprint("order ", at), b.Take(l[i]), api.OK)
		}
		if got := look(b); got != want {
			t.Fatalf("order %v: got %s, want %s", at, got, want)
		}
	})
}

// TestDrops: D1, what waited and does not fit is dropped, and what waits for it waits on.
func TestDrops(t *testing.T) {
	l := []api.Change{
		misfit(2, 1, 2, 1, 1),
		plainChange(2, 2, 3, 2, 1),
		plainChange(3, 1, 2, 1, 1),
		plainChange(1, 1, 1),
	}
	b := bookOf(t, l...)
	wantRefs(t, "in the book", order(b), refs(1, 1, 3, 1))
	wantRefs(t, "Waiting", b.Waiting(), refs(2, 2))
	missing, _ := b.Missing(nil)
	wantRefs(t, "Missing", missing, refs(2, 1))
	wantTold(t, "what was dropped, again", b.Take(l[0]), api.ErrState)
	wantRefs(t, "Waiting after a refusal", b.Waiting(), refs(2, 2))
	wantTold(t, "another one in its stead", b.Take(plainChange(2, 1, 2, 1, 1)), api.OK)
	wantRefs(t, "in the book", order(b), refs(1, 1, 2, 1, 2, 2, 3, 1))
	wantRefs(t, "Waiting", b.Waiting(), nil)
}

// TestRefusedChangesNothing: D1 and P1, a change that does not fit leaves no trace.
func TestRefusedChangesNothing(t *testing.T) {
	b := bookOf(t, plainChange(1, 1, 1), plainChange(3, 1, 9, 2, 1))
	before := look(b)
	wantTold(t, "no fit", b.Take(misfit(2, 1, 2, 1, 1)), api.ErrState)
	if got := look(b); got != before {
		t.Errorf("got %s, want %s", got, before)
	}
	if b.Has(api.Ref{Actor: 2, Seq: 1}) {
		t.Error("what was refused is there")
	}
}

// TestAll: D3, always the first by Ref of those that may be next, Actor ahead of Seq.
func TestAll(t *testing.T) {
	for _, c := range []struct {
		l    []api.Change
		want []api.Ref
	}{
		{diamond(), refs(1, 1, 2, 1, 3, 1, 1, 2)},
		{[]api.Change{plainChange(3, 1, 1), plainChange(2, 1, 1), plainChange(1, 1, 1)}, refs(1, 1, 2, 1, 3, 1)},
		{append(chain(2, 3), chain(1, 2)...), refs(1, 1, 1, 2, 2, 1, 2, 2, 2, 3)},
		{append(chain(2, 2), plainChange(1, 1, 3, 2, 2), plainChange(3, 1, 1)), refs(2, 1, 2, 2, 1, 1, 3, 1)},
		// 2:1 lets 1:1 be next, which stands ahead of 2:2.
		{append(chain(2, 2), plainChange(1, 1, 2, 2, 1), plainChange(3, 1, 1)), refs(2, 1, 1, 1, 2, 2, 3, 1)},
		{chain(7, 12), refs(7, 1, 7, 2, 7, 3, 7, 4, 7, 5, 7, 6, 7, 7, 7, 8, 7, 9, 7, 10, 7, 11, 7, 12)},
	} {
		wantRefs(t, "All", order(bookOf(t, c.l...)), c.want)
	}
}

// TestAllWhole: D3, changes come out as they came in.
func TestAllWhole(t *testing.T) {
	l := []api.Change{listBook(), onListBook()}
	b := bookOf(t, l...)
	if got := b.All(); fmt.Sprint(got) != fmt.Sprint(l) {
		t.Errorf("All: got %v, want %v", got, l)
	}
	for _, want := range l {
		got, err := b.Change(refOf(want))
		if wantTold(t, "Change", err, api.OK); fmt.Sprint(got) != fmt.Sprint(want) {
			t.Errorf("Change: got %v, want %v", got, want)
		}
	}
}

// TestHeads: D3, those on which none hangs, rising; what waits counts for nothing.
func TestHeads(t *testing.T) {
	b := New()
	for _, c := range []struct {
		c    api.Change
		want []api.Ref
	}{
		{plainChange(3, 1, 1), refs(3, 1)},
		{plainChange(2, 1, 1), refs(2, 1, 3, 1)},
		{plainChange(4, 1, 12, 3, 1, 5, 1), refs(2, 1, 3, 1)},
		{plainChange(1, 1, 2, 3, 1), refs(1, 1, 2, 1)},
		{plainChange(1, 2, 3, 1, 1), refs(1, 2, 2, 1)},
		{plainChange(6, 1, 9, 1, 1), refs(1, 2, 2, 1, 6, 1)},
		{plainChange(7, 1, 10, 1, 2, 2, 1, 6, 1), refs(7, 1)},
		{plainChange(5, 1, 11, 7, 1), refs(4, 1)}, // 4:1 comes in with it
	} {
		wantTold(t, "Take", b.Take(c.c), api.OK)
		wantRefs(t, fmt.Sprint("Heads after ", refOf(c.c)), b.Heads(), c.want)
	}
}

// TestHas: D3, Has and Change are of those that the book has.
func TestHas(t *testing.T) {
	b := bookOf(t, plainChange(1, 1, 1), plainChange(2, 1, 1, 9, 9))
	for _, n := range []int{math.MinInt, -1, 0, 1, 2, 99, 100, math.MaxInt} {
		for _, seq := range []int{math.MinInt, -1, 0, 1, 2, api.MaxNum, math.MaxInt} {
			r := api.Ref{Actor: n, Seq: seq}
			want := n == 1 && seq == 1
			if got := b.Has(r); got != want {
				t.Errorf("Has of %v: got %v", r, got)
			}
			c, err := b.Change(r)
			if want {
				wantTold(t, "Change", err, api.OK)
			} else if wantTold(t, "Change", err, api.ErrNone); !reflect.DeepEqual(c, api.Change{}) {
				t.Errorf("Change of %v with an error: got %v", r, c)
			}
		}
	}
}

// TestBehind: D3, heads and all they hang on, rising, each once.
func TestBehind(t *testing.T) {
	b := bookOf(t, append(diamond(), plainChange(4, 1, 1), plainChange(5, 1, 9, 6, 6))...)
	for _, c := range []struct {
		heads, behind []api.Ref
		want          api.Errno
	}{
		{nil, nil, api.OK},
		{refs(1, 1), refs(1, 1), api.OK},
		{refs(2, 1), refs(1, 1, 2, 1), api.OK},
		{refs(3, 1), refs(1, 1, 3, 1), api.OK},
		{refs(1, 2), refs(1, 1, 1, 2, 2, 1, 3, 1), api.OK},
		{refs(3, 1, 2, 1), refs(1, 1, 2, 1, 3, 1), api.OK},
		{refs(4, 1, 2, 1, 4, 1, 1, 1, 2, 1), refs(1, 1, 2, 1, 4, 1), api.OK},
		{refs(1, 2, 1, 1), refs(1, 1, 1, 2, 2, 1, 3, 1), api.OK},
		{refs(5, 1), nil, api.ErrNone},
		{refs(6, 6), nil, api.ErrNone},
		{refs(1, 1, 1, 3), nil, api.ErrNone},
		{refs(1, 3, 1, 1), nil, api.ErrNone},
		{refs(0, 0), nil, api.ErrNone},
		{refs(1, 1, -1, math.MaxInt), nil, api.ErrNone},
		{refs(100, 1), nil, api.ErrNone},
	} {
		got, err := b.Behind(c.heads)
		wantTold(t, fmt.Sprint("Behind of ", c.heads), err, c.want)
		wantRefs(t, fmt.Sprint("Behind of ", c.heads), got, c.behind)
		if err != nil && got != nil {
			t.Errorf("Behind of %v with an error: got %v", c.heads, got)
		}
	}
}

// TestMissing: D3, of heads and of the Deps of those that wait what is neither there nor waits, rising, each once.
func TestMissing(t *testing.T) {
	whole := bookOf(t, diamond()...)
	waiting := bookOf(t, plainChange(1, 1, 1), plainChange(5, 2, 9, 1, 1, 5, 1, 8, 3), plainChange(6, 1, 9, 2, 4, 5, 2, 8, 3))
	for _, c := range []struct {
		b              *Book
		heads, missing []api.Ref
		want           api.Errno
	}{
		{whole, nil, nil, api.OK},
		{whole, refs(1, 2), nil, api.OK},
		{whole, refs(1, 3, 1, 2), refs(1, 3), api.OK},
		{whole, refs(9, 1, 1, 4, 9, 1, 1, 3, 8, 2, 1, 4), refs(1, 3, 1, 4, 8, 2, 9, 1), api.OK},
		{whole, refs(api.MaxActor, api.MaxNum), refs(api.MaxActor, api.MaxNum), api.OK},
		{waiting, nil, refs(2, 4, 5, 1, 8, 3), api.OK},
		{waiting, refs(1, 1, 6, 1, 5, 2), refs(2, 4, 5, 1, 8, 3), api.OK},
		{waiting, refs(8, 3, 7, 1, 5, 1), refs(2, 4, 5, 1, 7, 1, 8, 3), api.OK},
		{whole, refs(0, 0), nil, api.ErrRange},
		{whole, refs(0, 1), nil, api.ErrRange},
		{whole, refs(1, 0), nil, api.ErrRange},
		{whole, refs(-1, 1), nil, api.ErrRange},
		{whole, refs(1, -1), nil, api.ErrRange},
		{whole, refs(api.MaxActor+1, 1), nil, api.ErrRange},
		{whole, refs(1, api.MaxNum+1), nil, api.ErrRange},
		{whole, refs(math.MinInt, math.MaxInt), nil, api.ErrRange},
		{waiting, refs(9, 1, 2, 2, 1, 0), nil, api.ErrRange},
	} {
		got, err := c.b.Missing(c.heads)
		wantTold(t, fmt.Sprint("Missing of ", c.heads), err, c.want)
		wantRefs(t, fmt.Sprint("Missing of ", c.heads), got, c.missing)
		if err != nil && got != nil {
			t.Errorf("Missing of %v with an error: got %v", c.heads, got)
		}
	}
}

// spoil writes into all that a change has.
func spoil(c api.Change) {
	for i := range c.Deps {
		c.Deps[i] = api.Ref{Actor: 77, Seq: 77}
	}
	for i := range c.Ops {
		for k := range c.Ops[i].Preds {
			c.Ops[i].Preds[k] = api.Id{Num: 77, Actor: 77}
		}
		c.Ops[i] = api.Op{Kind: 77}
	}
}

// TestKeepsNothing: P2, a book keeps no list that is handed in, and hands out none of its own.
func TestKeepsNothing(t *testing.T) {
	far := plainChange(4, 1, 20, 3, 1)
	want := look(bookOf(t, listBook(), onListBook(), far))
	a, c, w := listBook(), onListBook(), copyOf(far)
	b := bookOf(t, c, w, a)
	for _, x := range []api.Change{a, c, w} {
		spoil(x)
	}
	if got := look(b); got != want {
		t.Fatalf("lists that were handed in are kept: got %s, want %s", got, want)
	}
	wantTold(t, "what waits, again", b.Take(far), api.OK)

	for _, x := range b.All() {
		spoil(x)
	}
	one, _ := b.Change(api.Ref{Actor: 2, Seq: 1})
	spoil(one)
	behind, _ := b.Behind(refs(2, 1))
	missing, _ := b.Missing(nil)
	for _, l := range [][]api.Ref{b.Heads(), b.Waiting(), behind, missing} {
		if len(l) == 0 {
			t.Error("nothing to spoil")
		}
		for i := range l {
			l[i] = api.Ref{Actor: 77, Seq: 77}
		}
	}
	if got := look(b); got != want {
		t.Errorf("lists that were handed out are kept: got %s, want %s", got, want)
	}
}

// TestWritesNothing: P2, nothing is written into what is handed in, nor behind its length.
func TestWritesNothing(t *testing.T) {
	roomy := func(l []api.Ref) []api.Ref { return append(slices.Clone(l), refs(66, 6, 66, 7)...)[:len(l)] }
	c, want := onListBook(), onListBook()
	c.Deps = roomy(c.Deps)
	c.Ops = append(c.Ops, put("z", 9))[:len(c.Ops)]
	b := bookOf(t, c, listBook())
	heads, wantHeads := roomy(refs(7, 1, 2, 1, 1, 1)), refs(7, 1, 2, 1, 1, 1)
	b.Missing(heads)
	b.Behind(heads)
	b.Behind(heads[1:])
	if fmt.Sprint(c) != fmt.Sprint(want) || !slices.Equal(heads, wantHeads) {
		t.Errorf("written into what was handed in: %v, %v", c, heads)
	}
	for _, l := range [][]api.Ref{c.Deps, heads} {
		wantRefs(t, "behind the length", l[len(l):len(l)+2], refs(66, 6, 66, 7))
	}
	if got := c.Ops[:4][3]; got.Key != "z" {
		t.Errorf("behind the length of Ops: got %v", got)
	}
}

// TestAnyOrder: D3's last words, what a book has does not hang on the order in which changes came.
func TestAnyOrder(t *testing.T) {
	rnd := rand.New(rand.NewSource(5))
	for range 60 {
		l := grown(rnd, 40)
		want := look(bookOf(t, l...))
		for range 10 {
			rnd.Shuffle(len(l), func(i, k int) { l[i], l[k] = l[k], l[i] })
			if got := look(bookOf(t, l...)); got != want {
				t.Fatalf("got %s, want %s", got, want)
			}
		}
	}
}

// grown are changes of five actors, each hanging on some that are there.
func grown(rnd *rand.Rand, many int) []api.Change {
	b := New()
	var l []api.Change
	for len(l) < many {
		actor := 1 + rnd.Intn(5)
		deps := map[int]int{}
		for a := 1; a <= 5; a++ {
			if top := topSeq(l, a); top > 0 && (a == actor || rnd.Intn(3) == 0) {
				deps[a] = top
				if a != actor {
					deps[a] -= rnd.Intn(top)
				}
			}
		}
		c := plainChange(actor, topSeq(l, actor)+1, len(l)+1)
		for a := 1; a <= 5; a++ {
			if deps[a] > 0 {
				c.Deps = append(c.Deps, api.Ref{Actor: a, Seq: deps[a]})
			}
		}
		if b.Take(c) == nil {
			l = append(l, c)
		}
	}
	return l
}

func topSeq(l []api.Change, actor int) (top int) {
	for _, c := range l {
		if c.Actor == actor {
			top = max(top, c.Seq)
		}
	}
	return top
}
