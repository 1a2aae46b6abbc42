package dag

import (
	"fmt"
	"math/rand"
	"slices"
	"testing"

	"commonbook/api"
	"commonbook/change"
	"commonbook/plain"
)

func at(num, actor int) api.Id { return api.Id{Num: num, Actor: actor} }

// firstBook is 1:1, on which the ops of TestOpFits lean, by the numbers of its ops.
func firstBook() api.Change {
	m, l, k := at(1, 1), at(2, 1), at(3, 1)
	return api.Change{Actor: 1, Seq: 1, Start: 1, Ops: []api.Op{
		1 - 1:  {Kind: api.Make, Key: "m", Value: object(api.Map)},
		2 - 1:  {Kind: api.Make, Key: "l", Value: object(api.List)},
		3 - 1:  {Kind: api.Make, Key: "k", Value: object(api.List)},
		4 - 1:  {Kind: api.Put, Key: "n", Value: number(4)},
		5 - 1:  {Kind: api.Put, Key: "c", Value: count(5)},
		6 - 1:  {Kind: api.Put, Obj: m, Key: "n", Value: number(6)},
		7 - 1:  {Kind: api.Put, Obj: m, Key: "c", Value: count(7)},
		8 - 1:  {Kind: api.Put, Obj: l, Insert: true, Value: number(8)},
		9 - 1:  {Kind: api.Put, Obj: l, Elem: at(8, 1), Insert: true, Value: count(9)},
		10 - 1: {Kind: api.Make, Obj: l, Elem: at(8, 1), Insert: true, Value: object(api.Map)},
		11 - 1: {Kind: api.Make, Obj: l, Insert: true, Value: object(api.List)},
		12 - 1: {Kind: api.Put, Obj: k, Insert: true, Value: number(12)},
		13 - 1: {Kind: api.Put, Obj: l, Elem: at(8, 1), Value: count(13), Preds: ids(8, 1)},
		14 - 1: {Kind: api.Make, Obj: l, Elem: at(9, 1), Value: object(api.List), Preds: ids(9, 1)},
		15 - 1: {Kind: api.Del, Key: "n", Preds: ids(4, 1)},
		16 - 1: {Kind: api.Inc, Key: "c", Value: number(1), Preds: ids(5, 1)},
		17 - 1: {Kind: api.Del, Obj: l, Elem: at(10, 1), Preds: ids(10, 1)},
		18 - 1: {Kind: api.Inc, Obj: l, Elem: at(9, 1), Value: number(1), Preds: ids(9, 1)},
		19 - 1: {Kind: api.Put, Obj: at(10, 1), Key: "n", Value: number(19)},
		20 - 1: {Kind: api.Put, Obj: at(11, 1), Insert: true, Value: number(20)},
	}}
}

// besides are two changes that know of firstBook, and not of each other.
func besides() []api.Change {
	return []api.Change{
		{Actor: 2, Seq: 1, Start: 21, Deps: refs(1, 1), Ops: []api.Op{
			{Kind: api.Make, Key: "b", Value: object(api.Map)},
			{Kind: api.Put, Obj: at(2, 1), Elem: at(8, 1), Insert: true, Value: number(22)},
			{Kind: api.Put, Key: "n", Value: count(23)},
		}},
		{Actor: 3, Seq: 1, Start: 21, Deps: refs(1, 1), Ops: []api.Op{
			{Kind: api.Put, Key: "n", Value: count(21)},
		}},
	}
}

// opCases are changes of 4:1 that hang on firstBook and, where deps says so, on besides.
var opCases = []struct {
	what string
	deps []api.Ref
	ops  []api.Op
	want api.Errno
}{
	{"no ops", nil, nil, api.OK},

	{"a key of the root", nil, []api.Op{{Kind: api.Put, Key: "n"}}, api.OK},
	{"a key of a map", nil, []api.Op{{Kind: api.Put, Obj: at(1, 1), Key: "n"}}, api.OK},
	{"a key of a map that a list has", nil, []api.Op{{Kind: api.Put, Obj: at(10, 1), Key: "n"}}, api.OK},
	{"a key of a list", nil, []api.Op{{Kind: api.Put, Obj: at(2, 1), Key: "n"}}, api.ErrState},
	{"a key of a list that a list has", nil, []api.Op{{Kind: api.Put, Obj: at(11, 1), Key: "n"}}, api.ErrState},
	{"a key of a list that an element was set to", nil, []api.Op{{Kind: api.Put, Obj: at(14, 1), Key: "n"}}, api.ErrState},
	{"a key of a Put", nil, []api.Op{{Kind: api.Put, Obj: at(4, 1), Key: "n"}}, api.ErrState},
	{"a key of a Del", nil, []api.Op{{Kind: api.Put, Obj: at(15, 1), Key: "n"}}, api.ErrState},
	{"a key of an Inc", nil, []api.Op{{Kind: api.Put, Obj: at(16, 1), Key: "n"}}, api.ErrState},
	{"a key of an Insert that is a Put", nil, []api.Op{{Kind: api.Put, Obj: at(8, 1), Key: "n"}}, api.ErrState},
	{"a key of nothing", nil, []api.Op{{Kind: api.Put, Obj: at(20, 2), Key: "n"}}, api.ErrState},
	{"a key of a number of another actor", nil, []api.Op{{Kind: api.Put, Obj: at(1, 2), Key: "n"}}, api.ErrState},
	{"a key of the op's own id", nil, []api.Op{{Kind: api.Make, Obj: at(30, 4), Key: "n", Value: object(api.Map)}}, api.ErrState},

	{"the head of a list", nil, []api.Op{{Kind: api.Put, Obj: at(2, 1), Insert: true}}, api.OK},
	{"the head of a list without anything", nil, []api.Op{{Kind: api.Put, Obj: at(14, 1), Insert: true}}, api.OK},
	{"the head of the root", nil, []api.Op{{Kind: api.Put, Insert: true}}, api.ErrState},
	{"the head of a map", nil, []api.Op{{Kind: api.Put, Obj: at(1, 1), Insert: true}}, api.ErrState},
	{"the head of nothing", nil, []api.Op{{Kind: api.Put, Obj: at(99, 1), Insert: true}}, api.ErrState},
	{"the head of a Put", nil, []api.Op{{Kind: api.Put, Obj: at(4, 1), Insert: true}}, api.ErrState},
	{"behind an element", nil, []api.Op{{Kind: api.Put, Obj: at(2, 1), Elem: at(9, 1), Insert: true}}, api.OK},
	{"behind one that is gone", nil, []api.Op{{Kind: api.Put, Obj: at(2, 1), Elem: at(10, 1), Insert: true}}, api.OK},
	{"behind one of another list", nil, []api.Op{{Kind: api.Put, Obj: at(2, 1), Elem: at(12, 1), Insert: true}}, api.ErrState},
	{"behind a Put to an element", nil, []api.Op{{Kind: api.Put, Obj: at(2, 1), Elem: at(13, 1), Insert: true}}, api.ErrState},
	{"behind a Make at an element", nil, []api.Op{{Kind: api.Put, Obj: at(2, 1), Elem: at(14, 1), Insert: true}}, api.ErrState},
	{"behind the list itself", nil, []api.Op{{Kind: api.Put, Obj: at(2, 1), Elem: at(2, 1), Insert: true}}, api.ErrState},
	{"behind nothing", nil, []api.Op{{Kind: api.Put, Obj: at(2, 1), Elem: at(99, 9), Insert: true}}, api.ErrState},
	{"behind itself", nil, []api.Op{{Kind: api.Put, Obj: at(2, 1), Elem: at(30, 4), Insert: true}}, api.ErrState},
	{"an element of the root", nil, []api.Op{{Kind: api.Put, Elem: at(8, 1)}}, api.ErrState},
	{"an element of a map", nil, []api.Op{{Kind: api.Put, Obj: at(10, 1), Elem: at(10, 1)}}, api.ErrState},
	{"an element", nil, []api.Op{{Kind: api.Put, Obj: at(2, 1), Elem: at(8, 1)}}, api.OK},
	{"a Make at an element", nil, []api.Op{{Kind: api.Make, Obj: at(2, 1), Elem: at(8, 1), Value: object(api.Map)}}, api.OK},
	{"an element of another list", nil, []api.Op{{Kind: api.Put, Obj: at(3, 1), Elem: at(8, 1)}}, api.ErrState},
	{"a Put to an element as an element", nil, []api.Op{{Kind: api.Put, Obj: at(2, 1), Elem: at(13, 1)}}, api.ErrState},
	{"an element of a list in a list", nil, []api.Op{{Kind: api.Put, Obj: at(11, 1), Elem: at(20, 1)}}, api.OK},

	{"Preds: a Put", nil, []api.Op{{Kind: api.Put, Key: "n", Preds: ids(4, 1)}}, api.OK},
	{"Preds: a Make", nil, []api.Op{{Kind: api.Del, Key: "l", Preds: ids(2, 1)}}, api.OK},
	{"Preds: of a map", nil, []api.Op{{Kind: api.Put, Obj: at(1, 1), Key: "n", Preds: ids(6, 1)}}, api.OK},
	{"Preds: another key", nil, []api.Op{{Kind: api.Put, Key: "n", Preds: ids(5, 1)}}, api.ErrState},
	{"Preds: another map", nil, []api.Op{{Kind: api.Put, Key: "n", Preds: ids(6, 1)}}, api.ErrState},
	{"Preds: another map, of a list", nil, []api.Op{{Kind: api.Put, Obj: at(1, 1), Key: "n", Preds: ids(19, 1)}}, api.ErrState},
	{"Preds: a Del", nil, []api.Op{{Kind: api.Put, Key: "n", Preds: ids(15, 1)}}, api.ErrState},
	{"Preds: an Inc", nil, []api.Op{{Kind: api.Put, Key: "c", Preds: ids(16, 1)}}, api.ErrState},
	{"Preds: nothing", nil, []api.Op{{Kind: api.Put, Key: "n", Preds: ids(9, 9)}}, api.ErrState},
	{"Preds: itself", nil, []api.Op{{Kind: api.Put, Key: "n", Preds: ids(30, 4)}}, api.ErrState},
	{"Preds: the last one is none", nil, []api.Op{{Kind: api.Put, Key: "n", Preds: ids(4, 1, 9, 9)}}, api.ErrState},
	{"Preds: the first one is none", nil, []api.Op{{Kind: api.Put, Key: "n", Preds: ids(1, 1, 4, 1)}}, api.ErrState},
	{"Preds: an Insert, of its own place", nil, []api.Op{{Kind: api.Put, Obj: at(2, 1), Elem: at(8, 1), Preds: ids(8, 1)}}, api.OK},
	{"Preds: an Insert and a Put to it", nil, []api.Op{{Kind: api.Put, Obj: at(2, 1), Elem: at(8, 1), Preds: ids(8, 1, 13, 1)}}, api.OK},
	{"Preds: an Insert that is a Make", nil, []api.Op{{Kind: api.Del, Obj: at(2, 1), Elem: at(10, 1), Preds: ids(10, 1)}}, api.OK},
	{"Preds: a Make at an element", nil, []api.Op{{Kind: api.Del, Obj: at(2, 1), Elem: at(9, 1), Preds: ids(14, 1)}}, api.OK},
	{"Preds: an Insert behind the element", nil, []api.Op{{Kind: api.Put, Obj: at(2, 1), Elem: at(8, 1), Preds: ids(9, 1)}}, api.ErrState},
	{"Preds: another element", nil, []api.Op{{Kind: api.Put, Obj: at(2, 1), Elem: at(9, 1), Preds: ids(13, 1)}}, api.ErrState},
	{"Preds: an element of another list", nil, []api.Op{{Kind: api.Put, Obj: at(2, 1), Elem: at(8, 1), Preds: ids(12, 1)}}, api.ErrState},
	{"Preds: a Del of the element", nil, []api.Op{{Kind: api.Put, Obj: at(2, 1), Elem: at(10, 1), Preds: ids(17, 1)}}, api.ErrState},
	{"Preds: an Inc of the element", nil, []api.Op{{Kind: api.Put, Obj: at(2, 1), Elem: at(9, 1), Preds: ids(18, 1)}}, api.ErrState},

	{"Inc of a Count", nil, []api.Op{{Kind: api.Inc, Key: "c", Value: number(1), Preds: ids(5, 1)}}, api.OK},
	{"Inc of a Count in a map", nil, []api.Op{{Kind: api.Inc, Obj: at(1, 1), Key: "c", Value: number(1), Preds: ids(7, 1)}}, api.OK},
	{"Inc of a Count that was inserted", nil, []api.Op{{Kind: api.Inc, Obj: at(2, 1), Elem: at(9, 1), Value: number(1), Preds: ids(9, 1)}}, api.OK},
	{"Inc of a Count at an element", nil, []api.Op{{Kind: api.Inc, Obj: at(2, 1), Elem: at(8, 1), Value: number(1), Preds: ids(13, 1)}}, api.OK},
	{"Inc of a Number", nil, []api.Op{{Kind: api.Inc, Key: "n", Value: number(1), Preds: ids(4, 1)}}, api.ErrState},
	{"Inc of a Count and a Number", nil, []api.Op{{Kind: api.Inc, Obj: at(2, 1), Elem: at(8, 1), Value: number(1), Preds: ids(8, 1, 13, 1)}}, api.ErrState},
	{"Inc of a Make", nil, []api.Op{{Kind: api.Inc, Key: "l", Value: number(1), Preds: ids(2, 1)}}, api.ErrState},
	{"Inc of an Inc", nil, []api.Op{{Kind: api.Inc, Key: "c", Value: number(1), Preds: ids(16, 1)}}, api.ErrState},
	{"Inc of another key", nil, []api.Op{{Kind: api.Inc, Key: "n", Value: number(1), Preds: ids(5, 1)}}, api.ErrState},
	{"Inc of another map", nil, []api.Op{{Kind: api.Inc, Obj: at(1, 1), Key: "c", Value: number(1), Preds: ids(5, 1)}}, api.ErrState},
	{"Inc of nothing", nil, []api.Op{{Kind: api.Inc, Key: "c", Value: number(1), Preds: ids(9, 9)}}, api.ErrState},

	{"what it hangs on: Obj", refs(1, 1, 2, 1), []api.Op{{Kind: api.Put, Obj: at(21, 2), Key: "n"}}, api.OK},
	{"what it does not hang on: Obj", refs(1, 1, 3, 1), []api.Op{{Kind: api.Put, Obj: at(21, 2), Key: "n"}}, api.ErrState},
	{"what it hangs on: Elem", refs(2, 1), []api.Op{{Kind: api.Put, Obj: at(2, 1), Elem: at(22, 2), Insert: true}}, api.OK},
	{"what it does not hang on: Elem", refs(3, 1), []api.Op{{Kind: api.Put, Obj: at(2, 1), Elem: at(22, 2), Insert: true}}, api.ErrState},
	{"what it hangs on: Preds", refs(2, 1, 3, 1), []api.Op{{Kind: api.Inc, Key: "n", Value: number(1), Preds: ids(21, 3, 23, 2)}}, api.OK},
	{"what it does not hang on: Preds", refs(2, 1), []api.Op{{Kind: api.Inc, Key: "n", Value: number(1), Preds: ids(21, 3, 23, 2)}}, api.ErrState},

	{"an op ahead: Obj", nil, []api.Op{
		{Kind: api.Make, Key: "x", Value: object(api.List)},
		{Kind: api.Put, Obj: at(30, 4), Insert: true},
		{Kind: api.Make, Obj: at(30, 4), Elem: at(31, 4), Insert: true, Value: object(api.Map)},
		{Kind: api.Put, Obj: at(32, 4), Key: "n", Value: count(1)},
		{Kind: api.Inc, Obj: at(32, 4), Key: "n", Value: number(1), Preds: ids(33, 4)},
		{Kind: api.Del, Obj: at(30, 4), Elem: at(31, 4), Preds: ids(31, 4)},
	}, api.OK},
	{"an op behind: Obj", nil, []api.Op{
		{Kind: api.Put, Obj: at(31, 4), Insert: true},
		{Kind: api.Make, Key: "x", Value: object(api.List)},
	}, api.ErrState},
	{"an op behind: Elem", nil, []api.Op{
		{Kind: api.Put, Obj: at(2, 1), Elem: at(31, 4), Insert: true},
		{Kind: api.Put, Obj: at(2, 1), Insert: true},
	}, api.ErrState},
	{"an op behind: Preds", nil, []api.Op{
		{Kind: api.Del, Key: "x", Preds: ids(31, 4)},
		{Kind: api.Put, Key: "x"},
	}, api.ErrState},
	{"an op ahead of another list", nil, []api.Op{
		{Kind: api.Put, Obj: at(3, 1), Insert: true},
		{Kind: api.Put, Obj: at(2, 1), Elem: at(30, 4), Insert: true},
	}, api.ErrState},
	{"the last of many", nil, []api.Op{
		{Kind: api.Put, Key: "x"},
		{Kind: api.Put, Key: "x", Preds: ids(30, 4)},
		{Kind: api.Put, Key: "y", Preds: ids(31, 4)},
	}, api.ErrState},
}

// TestOpFits: D2, op by op; whether the change comes as it should, or waited, is all one.
func TestOpFits(t *testing.T) {
	for _, c := range opCases {
		deps := c.deps
		if deps == nil {
			deps = refs(1, 1)
		}
		x := api.Change{Actor: 4, Seq: 1, Start: 30, Deps: deps, Ops: c.ops}
		if err := change.Check(x); err != nil {
			t.Fatalf("%s: Check: %v", c.what, err)
		}
		b := bookOf(t, append(besides(), firstBook())...)
		wantTold(t, c.what, b.Take(x), c.want)
		if got := b.Has(refOf(x)); got != (c.want == api.OK) {
			t.Errorf("%s: Has: got %v", c.what, got)
		}
		late := bookOf(t, append([]api.Change{x, firstBook()}, besides()...)...)
		if got := late.Has(refOf(x)); got != (c.want == api.OK) || len(late.Waiting()) != 0 {
			t.Errorf("%s: after it waited: Has: got %v; Waiting: got %v", c.what, got, late.Waiting())
		}
	}
}

// TestSeq: D2, a change hangs on its actor's one ahead of it, near or far.
func TestSeq(t *testing.T) {
	two := append(chain(1, 2), plainChange(2, 1, 3, 1, 2), plainChange(3, 1, 3, 1, 1))
	for _, c := range []struct {
		c    api.Change
		want api.Errno
	}{
		{plainChange(1, 3, 9, 1, 2), api.OK},
		{plainChange(1, 3, 9, 2, 1), api.OK},
		{plainChange(1, 3, 9, 1, 1, 2, 1), api.OK},
		{plainChange(1, 3, 9), api.ErrState},
		{plainChange(1, 3, 9, 1, 1), api.ErrState},
		{plainChange(1, 3, 9, 3, 1), api.ErrState},
		{plainChange(1, 4, 9, 1, 2), api.ErrState},
		{plainChange(1, api.MaxNum, 9, 1, 2), api.ErrState},
		{plainChange(4, 1, 9, 1, 2), api.OK},
		{plainChange(4, 1, 9), api.OK},
		{plainChange(4, 2, 9), api.ErrState},
		{plainChange(4, 2, 9, 1, 1), api.ErrState},
		{plainChange(2, 2, 9), api.ErrState},
		{plainChange(2, 2, 9, 1, 2), api.ErrState},
		{plainChange(2, 2, 9, 2, 1), api.OK},
		{plainChange(1, 1, 9), api.ErrClash},
		{plainChange(1, 1, 9, 1, 2), api.ErrClash},
	} {
		b := bookOf(t, two...)
		wantTold(t, fmt.Sprint("Take of ", refOf(c.c), " on ", c.c.Deps), b.Take(c.c), c.want)
	}
}

// TestSeqOneOfKnown: D2, a first change cannot come behind a later one of its actor, for that one waits for it.
func TestSeqOneOfKnown(t *testing.T) {
	b := bookOf(t, plainChange(1, 2, 5, 1, 1), plainChange(2, 1, 6, 1, 2))
	wantTold(t, "1:1 on what hangs on 1:2", b.Take(plainChange(1, 1, 7, 2, 1)), api.OK)
	wantRefs(t, "Waiting", b.Waiting(), refs(1, 1, 1, 2, 2, 1))
	wantRefs(t, "in the book", order(b), nil)
}

// TestStart: D2, Start is above the numbers of all ops that it hangs on, and of no others.
func TestStart(t *testing.T) {
	many := plainChange(2, 1, 10)
	many.Ops = append(many.Ops, put("b", 1), put("c", 2))
	none := api.Change{Actor: 3, Seq: 1, Start: 500}
	l := []api.Change{plainChange(1, 1, 1), many, none, plainChange(4, 1, 900), plainChange(5, 1, 20, 2, 1)}
	for _, c := range []struct {
		start int
		deps  []int
		want  api.Errno
	}{
		{1, nil, api.OK},
		{1, []int{1, 1}, api.ErrState},
		{2, []int{1, 1}, api.OK},
		{10, []int{2, 1}, api.ErrState},
		{12, []int{2, 1}, api.ErrState},
		{13, []int{2, 1}, api.OK},
		{12, []int{1, 1, 2, 1}, api.ErrState},
		{13, []int{1, 1, 2, 1}, api.OK},
		{1, []int{3, 1}, api.OK},
		{2, []int{1, 1, 3, 1}, api.OK},
		{1, []int{1, 1, 3, 1}, api.ErrState},
		{900, []int{4, 1}, api.ErrState},
		{901, []int{4, 1}, api.OK},
		{13, []int{5, 1}, api.ErrState},
		{20, []int{5, 1}, api.ErrState},
		{21, []int{5, 1}, api.OK},
		{api.MaxNum, []int{5, 1}, api.OK},
	} {
		b := bookOf(t, l...)
		wantTold(t, fmt.Sprint("Start ", c.start, " on ", c.deps), b.Take(plainChange(9, 1, c.start, c.deps...)), c.want)
	}

	// It is the far one that has the greatest number.
	far := []api.Change{plainChange(1, 1, 50), {Actor: 2, Seq: 1, Start: 51, Deps: refs(1, 1)}}
	b := bookOf(t, far...)
	wantTold(t, "Start as a far one", b.Take(plainChange(3, 1, 50, 2, 1)), api.ErrState)
	wantTold(t, "Start above a far one", b.Take(plainChange(3, 1, 51, 2, 1)), api.OK)

	// A change without ops is held to it, too.
	wantTold(t, "without ops", b.Take(api.Change{Actor: 4, Seq: 1, Start: 50, Deps: refs(1, 1)}), api.ErrState)
}

// TestManyOps: D2, a change with 40 ops, each leaning on the one ahead, up to the greatest number.
func TestManyOps(t *testing.T) {
	c := api.Change{Actor: 99, Seq: 1, Start: api.MaxNum - api.MaxOps + 1, Ops: []api.Op{put("a", 0)}}
	for i := 1; i < api.MaxOps; i++ {
		c.Ops = append(c.Ops, put("a", i, at(c.Start+i-1, 99)))
	}
	b := bookOf(t, c)
	wantTold(t, "no number is left", b.Take(plainChange(99, 2, api.MaxNum, 99, 1)), api.ErrState)
	wantTold(t, "no number is needed", b.Take(api.Change{Actor: 99, Seq: 2, Start: api.MaxNum, Deps: refs(99, 1)}), api.ErrState)
}

// slow says what D2 says, word by word, of a change whose Deps are all there.
type slow map[api.Ref]api.Change

func (s slow) hangs(c, on api.Change) bool {
	for _, r := range c.Deps {
		if d := s[r]; refOf(d) == refOf(on) || s.hangs(d, on) {
			return true
		}
	}
	return false
}

func (s slow) fits(c api.Change) bool {
	ops := map[api.Id]api.Op{}
	ahead, own := c.Seq == 1, false
	for _, d := range s {
		if !s.hangs(c, d) {
			continue
		}
		for i, a := range change.Ids(d) {
			ops[a] = d.Ops[i]
			if a.Num >= c.Start {
				return false
			}
		}
		own = own || d.Actor == c.Actor
		ahead = ahead || d.Actor == c.Actor && d.Seq == c.Seq-1
	}
	if !ahead || c.Seq == 1 && own {
		return false
	}
	for i, a := range change.Ids(c) {
		if !slowOpFits(c.Ops[i], ops) {
			return false
		}
		ops[a] = c.Ops[i]
	}
	return true
}

func slowOpFits(op api.Op, ops map[api.Id]api.Op) bool {
	root := api.Id{}
	isMap := op.Obj == root
	if !isMap {
		made, ok := ops[op.Obj]
		if !ok || made.Kind != api.Make {
			return false
		}
		isMap = made.Value.Kind == api.Map
	}
	if isMap && op.Key == "" || !isMap && op.Key != "" {
		return false
	}
	if op.Elem != root {
		if e, ok := ops[op.Elem]; !ok || !e.Insert || e.Obj != op.Obj {
			return false
		}
	}
	for _, a := range op.Preds {
		p, ok := ops[a]
		if !ok || p.Kind != api.Put && p.Kind != api.Make || p.Obj != op.Obj {
			return false
		}
		elem := p.Elem
		if p.Insert {
			elem = a
		}
		if op.Key != "" && p.Key != op.Key || op.Key == "" && elem != op.Elem {
			return false
		}
		if op.Kind == api.Inc && (p.Kind != api.Put || p.Value.Kind != api.Count) {
			return false
		}
	}
	return true
}

// anyOp is one that Check takes, leaning on a few ids, of which some may be there.
func anyOp(rnd *rand.Rand, top int) api.Op {
	some := func() api.Id { return at(1+rnd.Intn(top), 1+rnd.Intn(3)) }
	op := api.Op{Kind: api.Put, Value: []api.Value{number(1), count(1)}[rnd.Intn(2)]}
	if rnd.Intn(3) > 0 {
		op.Obj = some()
	}
	switch rnd.Intn(3) {
	case 0:
		op.Key = []string{"a", "b"}[rnd.Intn(2)]
	case 1:
		op.Insert = true
		if rnd.Intn(2) == 0 {
			op.Elem = some()
		}
	default:
		op.Elem = some()
	}
	if rnd.Intn(3) == 0 {
		op.Kind, op.Value = api.Make, object([]int{api.Map, api.List}[rnd.Intn(2)])
	}
	if op.Insert || rnd.Intn(2) == 0 {
		return op
	}
	op.Preds = []api.Id{some()}
	if rnd.Intn(3) == 0 {
		op.Kind, op.Value = api.Del, api.Value{}
	} else if rnd.Intn(2) == 0 {
		op.Kind, op.Value = api.Inc, number(1)
	}
	return op
}

func anyChange(rnd *rand.Rand, has slow) api.Change {
	c := api.Change{Actor: 1 + rnd.Intn(3), Seq: 1, Start: 1 + rnd.Intn(2+2*len(has))}
	for actor := 1; actor <= 3; actor++ {
		seq := 0
		for has[api.Ref{Actor: actor, Seq: seq + 1}].Seq > 0 {
			seq++
		}
		if actor == c.Actor {
			c.Seq = max(1, seq+rnd.Intn(4)-rnd.Intn(2)*rnd.Intn(2))
		}
		if seq > 0 && rnd.Intn(4) > 0 {
			c.Deps = append(c.Deps, api.Ref{Actor: actor, Seq: seq - rnd.Intn(seq)*rnd.Intn(2)})
		}
	}
	for range rnd.Intn(4) {
		c.Ops = append(c.Ops, anyOp(rnd, c.Start+3))
	}
	return c
}

// TestAsSaid: D1 and D2, changes of all sorts, as the document's words have it.
func TestAsSaid(t *testing.T) {
	rnd := rand.New(rand.NewSource(11))
	told := map[api.Errno]int{}
	for range 800 {
		b, has := New(), slow{}
		for range 60 {
			c := anyChange(rnd, has)
			if err := change.Check(c); err != nil {
				t.Fatalf("%v: Check: %v", c, err)
			}
			want := api.OK
			if _, ok := has[refOf(c)]; ok {
				want = api.ErrClash
			} else if !has.fits(c) {
				want = api.ErrState
			}
			if old := has[refOf(c)]; fmt.Sprint(old) == fmt.Sprint(c) {
				want = api.OK
			}
			if got := plain.Told(b.Take(c)); got != want {
				t.Fatalf("%v on %v: got %v, want %v", c, b.All(), got, want)
			}
			if told[want]++; want == api.OK {
				has[refOf(c)] = c
			}
		}
		wantAsSaid(t, b, has)
	}
	for _, e := range []api.Errno{api.OK, api.ErrClash, api.ErrState} {
		if told[e] < 1000 {
			t.Errorf("%v was told only %d times", e, told[e])
		}
	}
}

// wantAsSaid holds a book against D3's words.
func wantAsSaid(t *testing.T, b *Book, has slow) {
	t.Helper()
	var heads, all []api.Ref
	for actor := 1; actor <= 3; actor++ {
		for seq := 1; seq <= len(has); seq++ {
			r := api.Ref{Actor: actor, Seq: seq}
			c, ok := has[r]
			if !ok {
				continue
			}
			all = append(all, r)
			head := true
			for _, d := range has {
				head = head && !has.hangs(d, c)
			}
			if head {
				heads = append(heads, r)
			}
		}
	}
	wantRefs(t, "Heads", b.Heads(), heads)
	behind, err := b.Behind(heads)
	wantTold(t, "Behind", err, api.OK)
	wantRefs(t, "Behind all heads", behind, all)
	var order []api.Ref
	for len(order) < len(all) {
		for _, r := range all {
			missing := func(d api.Ref) bool { return !slices.Contains(order, d) }
			if missing(r) && !slices.ContainsFunc(has[r].Deps, missing) {
				order = append(order, r)
				break
			}
		}
	}
	for i, c := range b.All() {
		if refOf(c) != order[i] {
			t.Fatalf("All: at %d got %v, want %v", i, refOf(c), order)
		}
	}
}
