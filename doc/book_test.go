package doc

import (
	"fmt"
	"math"
	"reflect"
	"slices"
	"testing"

	"commonbook/api"
	"commonbook/dag"
)

func fork(t testing.TB, d *Doc, actor int) *Doc {
	t.Helper()
	f, err := d.Fork(actor)
	must(t, err)
	return f
}

func merge(t testing.TB, d, o *Doc, want int) {
	t.Helper()
	if n, err := d.Merge(o); err != nil || n != want {
		t.Errorf("Merge: got %d, %v, want %d", n, err, want)
	}
}

func wantRefs(t testing.TB, what string, got, want []api.Ref) {
	t.Helper()
	if !slices.Equal(got, want) {
		t.Errorf("%s: got %v, want %v", what, got, want)
	}
}

// lone is a change with one op, which leans on nothing but its Deps.
func lone(actor, seq, start int, deps ...int) api.Change {
	return api.Change{Actor: actor, Seq: seq, Start: start, Deps: refs(deps...), Ops: []api.Op{{Kind: api.Put, Key: "a", Value: num(actor)}}}
}

// H2: Insert behind the element with the index at - 1, and so ahead of all that stood there.
func TestInsert(t *testing.T) {
	d, l := row(t, 3)
	commit(t, d)
	must(t, d.Insert(l, 0, text("first")), d.Insert(l, 2, text("middle")), d.Insert(l, 5, text("last")))
	wantText(t, "Insert", d, `{"l":["first",0,"middle",1,2,"last"]}`)
	must(t, d.Remove(l, 1), d.Insert(l, 1, text("behind first")))
	wantText(t, "behind one that is gone", d, `{"l":["first","behind first","middle",1,2,"last"]}`)
	if a := made(t)(d.InsertNew(l, 6, api.Map)); d.Put(a, "k", num(1)) != nil {
		t.Error("no key in a map that was inserted")
	}
	wantText(t, "InsertNew", d, `{"l":["first","behind first","middle",1,2,"last",{"k":1}]}`)
}

// H2: Commit makes a change of all that is pending, and of nothing but that.
func TestCommit(t *testing.T) {
	d := hand(t, 5)
	_, err := d.Commit()
	wantTold(t, "Commit of a new hand", err, api.ErrNone)
	m := made(t)(d.Make(root, "m", api.Map))
	must(t, d.Put(m, "k", num(1)))
	if r := commit(t, d); r != (api.Ref{Actor: 5, Seq: 1}) || d.Pending() != 0 {
		t.Errorf("Commit: got %v, %d pending", r, d.Pending())
	}
	r, err := d.Commit()
	if wantTold(t, "Commit again", err, api.ErrNone); r != (api.Ref{}) {
		t.Errorf("Commit with an error: got %v", r)
	}
	take(t, d, lone(2, 1, 9), lone(7, 1, 4, 5, 1))
	must(t, d.Put(m, "k", num(2)))
	if r := commit(t, d); r != (api.Ref{Actor: 5, Seq: 2}) {
		t.Errorf("Commit: got %v", r)
	}
	wantRefs(t, "Heads", d.Heads(), refs(5, 2))
	want := []api.Change{
		lone(2, 1, 9),
		{Actor: 5, Seq: 1, Start: 1, Ops: []api.Op{
			{Kind: api.Make, Key: "m", Value: object(api.Map, root)},
			{Kind: api.Put, Obj: m, Key: "k", Value: num(1)}}},
		lone(7, 1, 4, 5, 1),
		{Actor: 5, Seq: 2, Start: 10, Deps: refs(2, 1, 7, 1), Ops: []api.Op{
			{Kind: api.Put, Obj: m, Key: "k", Value: num(2), Preds: ids(2, 5)}}},
	}
	if got := d.All(); !reflect.DeepEqual(got, want) {
		t.Errorf("All: got %+v, want %+v", got, want)
	}
}

// H2: Seq is one more than the last one of the actor in the book, even if another hand wrote it.
func TestSeq(t *testing.T) {
	d := hand(t, 1)
	take(t, d, lone(1, 1, 1), lone(1, 2, 2, 1, 1), lone(2, 1, 1))
	must(t, d.Put(root, "b", num(1)))
	if r := commit(t, d); r != (api.Ref{Actor: 1, Seq: 3}) {
		t.Errorf("Commit: got %v, want 1:3", r)
	}
}

// H2: a book with MaxDeps Heads is knit together by Commit, one with more is not, and what is pending stays.
func TestManyHeads(t *testing.T) {
	for _, many := range []int{api.MaxDeps, api.MaxDeps + 1} {
		d := hand(t, 1)
		l := concurrent("a", numbers(many)...)
		take(t, d, l...)
		must(t, d.Put(root, "b", num(1)))
		before := snapshot(d)
		r, err := d.Commit()
		if many <= api.MaxDeps {
			must(t, err)
			wantRefs(t, "Heads", d.Heads(), refs(1, 1))
			continue
		}
		wantTold(t, "too many Heads", err, api.ErrFull)
		if r != (api.Ref{}) || snapshot(d) != before {
			t.Errorf("Commit with an error: got %v, and %s, want %s", r, snapshot(d), before)
		}
		wantText(t, "too many Heads", d, `{"a":12,"b":1}`)
		if d.Rollback() != 1 {
			t.Error("Rollback behind an error")
		}
		_, err = d.Commit()
		wantTold(t, "too many Heads, and nothing pending", err, api.ErrNone)
		take(t, d, knitted(l)...)
		must(t, d.Put(root, "b", num(1)))
		commit(t, d)
		wantRefs(t, "Heads", d.Heads(), refs(1, 1))
	}
}

// H1, H2: a book has up to MaxChanges.
func TestMaxChanges(t *testing.T) {
	d := hand(t, 1)
	for i := range api.MaxChanges {
		must(t, d.Put(root, "a", num(i)))
		if r := commit(t, d); r.Seq != i+1 {
			t.Fatalf("Commit %d: got %v", i, r)
		}
	}
	wantAnswer(t, "Put", d, api.ErrFull, func() (api.Id, error) { return noId(d.Put(root, "a", num(1))) })
	_, err := d.Commit()
	wantTold(t, "Commit of nothing", err, api.ErrNone)
	wantTold(t, "Take", d.Take(lone(2, 1, 1)), api.ErrFull)
	wantTold(t, "Take of what is there", d.Take(d.All()[0]), api.OK)
	f := fork(t, d, 2)
	wantAnswer(t, "Put in a fork", f, api.ErrFull, func() (api.Id, error) { return noId(f.Put(root, "a", num(1))) })
	merge(t, f, d, 0)
	o := hand(t, 3)
	must(t, o.Put(root, "z", num(1)))
	commit(t, o)
	n, err := d.Merge(o)
	if wantTold(t, "Merge", err, api.ErrFull); n != 0 {
		t.Errorf("Merge with an error: got %d", n)
	}
	if n, err = o.Merge(d); n != 0 || len(o.All()) != api.MaxChanges {
		t.Errorf("Merge of too many: got %d, %v, and %d changes", n, err, len(o.All()))
	}
	wantTold(t, "Merge of too many", err, api.ErrFull)
	wantText(t, "those ahead are taken", o, `{"a":118,"z":1}`)
}

// H2: changes that wait count in the book's Take, and so in Commit.
func TestCommitWithWaiting(t *testing.T) {
	d := hand(t, 1)
	for seq := range api.MaxChanges - 1 {
		take(t, d, lone(2, seq+2, 1, 99, 1))
	}
	must(t, d.Put(root, "a", num(1)))
	commit(t, d)
	must(t, d.Put(root, "a", num(2)))
	before := snapshot(d)
	_, err := d.Commit()
	if wantTold(t, "as many as may be wait", err, api.ErrFull); snapshot(d) != before {
		t.Errorf("Commit with an error: got %s, want %s", snapshot(d), before)
	}

	d = hand(t, 1)
	take(t, d, lone(1, 1, 5, 99, 1))
	must(t, d.Put(root, "a", num(1)))
	before = snapshot(d)
	_, err = d.Commit()
	if wantTold(t, "another such waits", err, api.ErrClash); snapshot(d) != before {
		t.Errorf("Commit with an error: got %s, want %s", snapshot(d), before)
	}
}

// H2: those that wait for a change come in with it.
func TestCommitWakes(t *testing.T) {
	d := hand(t, 1)
	take(t, d, lone(2, 1, 5, 1, 1))
	must(t, d.Put(root, "b", num(1)))
	wantText(t, "ahead", d, `{"b":1}`)
	commit(t, d)
	wantText(t, "behind", d, `{"a":2,"b":1}`)
	wantRefs(t, "Heads", d.Heads(), refs(2, 1))
}

// H2: Rollback takes away what is pending, and tells how many; nothing of it is seen any more.
func TestRollback(t *testing.T) {
	d := hand(t, 1)
	if n := d.Rollback(); n != 0 {
		t.Errorf("Rollback of a new hand: got %d", n)
	}
	l := made(t)(d.Make(root, "l", api.List))
	commit(t, d)
	before := snapshot(d)
	m := made(t)(d.Make(root, "m", api.Map))
	must(t, d.Put(m, "k", num(1)), d.Insert(l, 0, num(1)), d.Del(root, "l"))
	if d.Pending() != 4 {
		t.Errorf("Pending: got %d", d.Pending())
	}
	if n := d.Rollback(); n != 4 || d.Pending() != 0 || snapshot(d) != before {
		t.Errorf("Rollback: got %d, and %s, want %s", n, snapshot(d), before)
	}
	wantText(t, "Rollback", d, `{"l":[]}`)
	wantTold(t, "Put into what was pending", d.Put(m, "k", num(1)), api.ErrNone)
	if n := d.Rollback(); n != 0 {
		t.Errorf("Rollback again: got %d", n)
	}
	if again := made(t)(d.Make(root, "m", api.List)); again != m {
		t.Errorf("an id behind Rollback: got %v, want %v", again, m)
	}
}

// RollbackTo leaves the first of what is pending, as many as are asked for, and the next op has the number behind them.
func TestRollbackTo(t *testing.T) {
	for many, left := range map[int]int{0: 0, 1: 1, 2: 2, 3: 3, 4: 4, 5: 4, math.MaxInt: 4, -1: 0, math.MinInt: 0} {
		d, l := row(t, 2)
		commit(t, d)
		must(t, d.Insert(l, 0, num(7)), d.Remove(l, 1), d.Set(l, 0, num(8)), d.Put(root, "k", num(1)))
		ops := slices.Clone(d.pending)
		d.RollbackTo(many)
		if d.Pending() != left {
			t.Errorf("RollbackTo %d: %d pending, want %d", many, d.Pending(), left)
		}
		wantOps(t, fmt.Sprint("RollbackTo ", many), d.pending, ops[:left]...)
		if a := made(t)(d.Make(root, "m", api.Map)); a != (api.Id{Num: 4 + left, Actor: 1}) {
			t.Errorf("RollbackTo %d: the next id is %v", many, a)
		}
		commit(t, d)
		wantOps(t, "committed", d.All()[1].Ops[:left], ops[:left]...)
		d.RollbackTo(0)
		wantText(t, "what is in the book stays", d, []string{`{"l":[0,1],"m":{}}`, `{"l":[7,0,1],"m":{}}`, `{"l":[7,1],"m":{}}`, `{"l":[8,1],"m":{}}`, `{"k":1,"l":[8,1],"m":{}}`}[left])
	}
}

// H2: Take is the book's, but if something is pending.
func TestTake(t *testing.T) {
	d := hand(t, 1)
	c := lone(2, 1, 1)
	other := lone(2, 1, 2)
	misfit := lone(3, 1, 1, 2, 1)
	told := []struct {
		c    api.Change
		want api.Errno
	}{
		{api.Change{}, api.ErrRange}, {lone(4, 1, 1, 5, 5, 5, 5), api.ErrOrder}, {lone(2, 2, 5, 9, 9), api.OK}, {c, api.OK}, {c, api.OK}, {other, api.ErrClash}, {misfit, api.ErrState},
	}
	for i, x := range told {
		before := snapshot(d)
		wantTold(t, fmt.Sprint("Take ", i), d.Take(x.c), x.want)
		if x.want != api.OK && snapshot(d) != before {
			t.Errorf("Take %d with an error: got %s, want %s", i, snapshot(d), before)
		}
	}
	must(t, d.Put(root, "b", num(1)))
	before := snapshot(d)
	for i, x := range told {
		wantTold(t, fmt.Sprint("pending: Take ", i), d.Take(x.c), api.ErrState)
	}
	wantTold(t, "pending: Take of one more", d.Take(lone(7, 1, 1)), api.ErrState)
	if snapshot(d) != before {
		t.Errorf("Take with something pending: got %s, want %s", snapshot(d), before)
	}
	d.Rollback()
	wantTold(t, "rolled back: Take of one more", d.Take(lone(7, 1, 1)), api.OK)
}

// H2: two hands that are merged into each other read the same; again, nothing comes.
func TestMerge(t *testing.T) {
	a := hand(t, 1)
	l := made(t)(a.Make(root, "l", api.List))
	must(t, a.Put(root, "c", count(1)))
	commit(t, a)
	b := fork(t, a, 2)
	must(t, a.Insert(l, 0, num(1)), a.Add(root, "c", 10), a.Put(root, "k", num(1)))
	commit(t, a)
	must(t, a.Put(root, "k", num(2)))
	commit(t, a)
	must(t, b.Insert(l, 0, num(2)), b.Add(root, "c", 100), b.Put(root, "k", num(3)))
	commit(t, b)
	merge(t, a, b, 1)
	merge(t, b, a, 2)
	for range 2 {
		for _, d := range []*Doc{a, b} {
			wantText(t, "merged", d, `{"c":111,"k":2,"l":[2,1]}`)
			wantRefs(t, "Heads", d.Heads(), refs(1, 3, 2, 1))
		}
		merge(t, a, b, 0)
		merge(t, b, a, 0)
		merge(t, a, a, 0)
	}
	if !reflect.DeepEqual(a.All(), b.All()) {
		t.Errorf("All: %v and %v", a.All(), b.All())
	}
	merge(t, a, hand(t, 9), 0)
	e := hand(t, 9)
	merge(t, e, a, 4)
	wantText(t, "into an empty one", e, a.Text())
	merge(t, hand(t, 8), hand(t, 9), 0)
}

// H2: what is pending in the other one does not come; with something pending here nothing does.
func TestMergePending(t *testing.T) {
	a, b := hand(t, 1), hand(t, 2)
	must(t, a.Put(root, "a", num(1)))
	commit(t, a)
	must(t, a.Put(root, "a", num(2)))
	before := snapshot(a)
	merge(t, b, a, 1)
	wantText(t, "without what is pending there", b, `{"a":1}`)
	for what, o := range map[string]*Doc{"another": b, "an empty one": hand(t, 3), "itself": a} {
		n, err := a.Merge(o)
		if wantTold(t, "Merge of "+what, err, api.ErrState); n != 0 {
			t.Errorf("Merge of %s with an error: got %d", what, n)
		}
	}
	if snapshot(a) != before {
		t.Errorf("Merge with something pending: got %s, want %s", snapshot(a), before)
	}
}

// H2: a change that clashes ends Merge; those ahead of it are taken.
func TestMergeClash(t *testing.T) {
	a, b := hand(t, 1), hand(t, 2)
	take(t, a, lone(5, 1, 1), lone(3, 1, 1))
	take(t, b, lone(4, 1, 1), lone(5, 1, 2), lone(6, 1, 1), lone(3, 1, 1))
	before := snapshot(b)
	n, err := a.Merge(b)
	if wantTold(t, "Merge", err, api.ErrClash); n != 0 {
		t.Errorf("Merge with an error: got %d", n)
	}
	if got, want := a.All(), []api.Change{lone(3, 1, 1), lone(4, 1, 1), lone(5, 1, 1)}; !reflect.DeepEqual(got, want) {
		t.Errorf("those ahead: got %v, want %v", got, want)
	}
	if snapshot(b) != before {
		t.Errorf("the other one: got %s, want %s", snapshot(b), before)
	}
	take(t, a, lone(8, 1, 1, 9, 9))
	take(t, b, lone(8, 1, 2))
	_, err = a.Merge(b)
	wantTold(t, "Merge again", err, api.ErrClash)
}

// H2: what waits there does not come; what waits here comes in with what it waits for, and counts if it is there, too.
func TestMergeWaiting(t *testing.T) {
	a, b := hand(t, 1), hand(t, 2)
	take(t, b, lone(3, 1, 1), lone(4, 1, 2, 5, 5))
	merge(t, a, b, 1)
	wantRefs(t, "without what waits there", a.Heads(), refs(3, 1))

	a, b = hand(t, 1), hand(t, 2)
	take(t, a, lone(4, 1, 2, 3, 1), lone(5, 1, 3, 3, 1))
	take(t, b, lone(3, 1, 1), lone(4, 1, 2, 3, 1), lone(6, 1, 1))
	merge(t, a, b, 3)
	wantRefs(t, "with what waits here", a.Heads(), refs(4, 1, 5, 1, 6, 1))
	merge(t, a, b, 0)

	a, b = hand(t, 1), hand(t, 2)
	take(t, a, lone(4, 1, 3, 3, 1))
	take(t, b, lone(3, 1, 1), lone(4, 1, 2, 3, 1))
	_, err := a.Merge(b)
	wantTold(t, "with another that waits here", err, api.ErrClash)
	wantRefs(t, "with another that waits here", a.Heads(), refs(4, 1))
}

// H2: Fork has the same changes, and from then on each goes its own way.
func TestFork(t *testing.T) {
	a := thingsOf(t)
	d := a.Doc
	f := fork(t, d, 2)
	if !reflect.DeepEqual(f.All(), d.All()) || f.Pending() != 0 {
		t.Errorf("Fork: got %s, of %s", snapshot(f), snapshot(d))
	}
	wantText(t, "without what is pending", f, `{"k":3,"l":[10,11],"m":{"k":1}}`)
	wantTold(t, "Put into what is pending there", f.Put(a.newer, "k", num(1)), api.ErrNone)
	before := snapshot(d)
	must(t, f.Put(a.aMap, "k", num(77)), f.Remove(a.list, 0))
	if r := commit(t, f); r != (api.Ref{Actor: 2, Seq: 1}) {
		t.Errorf("Commit of a fork: got %v", r)
	}
	take(t, f, lone(9, 1, 1))
	if snapshot(d) != before {
		t.Errorf("the first one sees what the fork did: got %s, want %s", snapshot(d), before)
	}
	seen := snapshot(f)
	must(t, d.Del(root, "l"))
	commit(t, d)
	if snapshot(f) != seen {
		t.Errorf("the fork sees what the first one did: got %s, want %s", snapshot(f), seen)
	}
	wantText(t, "a fork of nothing", fork(t, hand(t, 1), 99), "{}")
}

// H2: what waits is no change of the book: it does not come along, and hinders no one.
func TestForkWaiting(t *testing.T) {
	d := hand(t, 1)
	take(t, d, lone(3, 1, 1), lone(4, 1, 2, 5, 1))
	f := fork(t, d, 4)
	take(t, f, lone(5, 1, 1))
	wantRefs(t, "Heads", f.Heads(), refs(3, 1, 5, 1))
}

// H2: errors of Fork.
func TestForkErrors(t *testing.T) {
	d := hand(t, 1)
	take(t, d, lone(3, 1, 1), lone(4, 1, 2, 3, 1))
	must(t, d.Put(root, "b", num(1)))
	before := snapshot(d)
	for actor, want := range map[int]api.Errno{0: api.ErrRange, -1: api.ErrRange, 100: api.ErrRange, math.MinInt: api.ErrRange, math.MaxInt: api.ErrRange,
		1: api.ErrClash, 3: api.ErrClash, 4: api.ErrClash, 2: api.OK, 99: api.OK} {
		f, err := d.Fork(actor)
		wantTold(t, fmt.Sprint("Fork of ", actor), err, want)
		if (f == nil) != (want != api.OK) {
			t.Errorf("Fork of %d: got %v", actor, f)
		}
	}
	if snapshot(d) != before {
		t.Errorf("Fork: got %s, want %s", snapshot(d), before)
	}
}

// H1, H2: All and Heads are the book's alone.
func TestAllAndHeads(t *testing.T) {
	d := hand(t, 1)
	must(t, d.Put(root, "a", num(1)))
	if len(d.All())+len(d.Heads()) != 0 {
		t.Error("what is pending is in All or Heads")
	}
	d.Rollback()
	b := dag.New()
	for _, c := range []api.Change{lone(4, 1, 2, 2, 1), lone(3, 1, 1), lone(2, 1, 1), lone(7, 1, 1, 8, 8)} {
		must(t, b.Take(c), d.Take(c))
	}
	if !reflect.DeepEqual(d.All(), b.All()) {
		t.Errorf("All: got %v, want %v", d.All(), b.All())
	}
	wantRefs(t, "Heads", d.Heads(), b.Heads())
}

// Book is the hand's own, each time, and has nothing that is pending.
func TestBook(t *testing.T) {
	d := hand(t, 5)
	b := d.Book()
	must(t, d.Put(root, "a", num(1)))
	if len(b.All()) != 0 {
		t.Errorf("Book has what is pending: %v", b.All())
	}
	commit(t, d)
	wantRefs(t, "Heads of Book", b.Heads(), refs(5, 1))
	must(t, b.Take(lone(2, 1, 1)), b.Take(lone(3, 2, 9, 3, 1)))
	wantRefs(t, "Heads", d.Heads(), refs(2, 1, 5, 1))
	wantRefs(t, "what waits", d.Book().Waiting(), refs(3, 2))
	if f := fork(t, d, 6); d.Book() != b || f.Book() == b {
		t.Error("Book: another one, or that of a hand that was forked")
	}
}

// P2: what was handed in is neither changed nor kept, and what is answered is the caller's.
func TestMemory(t *testing.T) {
	d := hand(t, 1)
	c := lone(2, 1, 1)
	e := lone(3, 1, 2, 2, 1)
	e.Ops[0].Preds = ids(1, 2)
	take(t, d, c, e)
	must(t, d.Put(root, "b", num(1)), d.Put(root, "b", num(2)), d.Put(root, "a", num(3)))
	before := snapshot(d)
	e.Deps[0], e.Ops[0].Preds[0], c.Ops[0].Key = api.Ref{}, api.Id{}, "z"
	spoil := func(l []api.Change) {
		for i := range l {
			for k := range l[i].Ops {
				clear(l[i].Ops[k].Preds)
			}
			clear(l[i].Deps)
			clear(l[i].Ops)
		}
		clear(l)
	}
	spoil(d.All())
	clear(d.Heads())
	values, _ := d.Get(root, "b")
	clear(values)
	keys, _ := d.Keys(root)
	clear(keys)
	if snapshot(d) != before {
		t.Errorf("got %s, want %s", snapshot(d), before)
	}
	commit(t, d)
	f := fork(t, d, 9)
	o := hand(t, 8)
	merge(t, o, d, 3)
	before = snapshot(d)
	spoil(f.All())
	spoil(o.All())
	spoil(d.All())
	for _, x := range []*Doc{d, f, o} {
		if got := fmt.Sprintf("%+v", x.All()); got != fmt.Sprintf("%+v", d.All()) || snapshot(d) != before {
			t.Errorf("got %s, want %s", snapshot(x), before)
		}
	}
	at, list := row(t, 2)
	spoilt, _ := at.At(list, 0)
	clear(spoilt)
	wantText(t, "At is fresh", at, `{"l":[0,1]}`)
}
