package change

import (
	"math"
	"reflect"
	"slices"
	"strings"
	"testing"

	"commonbook/api"
	"commonbook/plain"
)

var (
	root = api.Id{}
	one  = api.Id{Num: 1, Actor: 1}
	two  = api.Id{Num: 2, Actor: 1}
	last = api.Id{Num: api.MaxNum, Actor: api.MaxActor}
)

// noIds are neither ids nor the root.
var noIds = []api.Id{
	{Num: 0, Actor: 1}, {Num: 1, Actor: 0}, {Num: -1, Actor: 1}, {Num: 1, Actor: -1},
	{Num: api.MaxNum + 1, Actor: 1}, {Num: 1, Actor: api.MaxActor + 1},
	{Num: math.MinInt, Actor: math.MaxInt}, {Num: math.MaxInt, Actor: 1}, {Num: 1, Actor: math.MinInt},
}

func null() api.Value { return api.Value{} }

func number(n int) api.Value { return api.Value{Kind: api.Number, Num: n} }

func text(s string) api.Value { return api.Value{Kind: api.Text, Text: s} }

func object(kind int) api.Value { return api.Value{Kind: kind} }

func key(size int) string { return strings.Repeat("k", size) }

// ids are so many, rising, from 1@1 on.
func ids(many int) (l []api.Id) {
	for i := range many {
		l = append(l, api.Id{Num: i + 1, Actor: 1})
	}
	return l
}

// deps are so many, rising.
func deps(many int) (l []api.Ref) {
	for i := range many {
		l = append(l, api.Ref{Actor: i + 1, Seq: api.MaxNum - i})
	}
	return l
}

// puts are so many ops that Check takes.
func puts(many int) (l []api.Op) {
	for i := range many {
		l = append(l, api.Op{Kind: api.Put, Key: "a", Value: number(i)})
	}
	return l
}

func with(ops ...api.Op) api.Change {
	return api.Change{Actor: 1, Seq: 1, Start: 1, Ops: ops}
}

// changed is an op that Check takes, but for what is done to it.
func changed(do func(op *api.Op)) api.Op {
	op := api.Op{Kind: api.Put, Key: "a", Value: number(7)}
	do(&op)
	return op
}

func checkTold(t *testing.T, c api.Change, want api.Errno) {
	t.Helper()
	if got := plain.Told(Check(c)); got != want {
		t.Errorf("Check(%v): %v, want %v", c, got, want)
	}
}

func checkOpTold(t *testing.T, op api.Op, want api.Errno) {
	t.Helper()
	checkTold(t, with(op), want)
}

// right are changes that Check takes.
var right = []api.Change{
	{Actor: 1, Seq: 1, Start: 1},
	{Actor: api.MaxActor, Seq: api.MaxNum, Start: api.MaxNum},
	{Actor: api.MaxActor, Seq: api.MaxNum, Start: api.MaxNum, Ops: puts(1)},
	{Actor: 5, Seq: 6, Start: api.MaxNum - 39, Ops: puts(40)},
	{Actor: 1, Seq: 2, Start: 300, Deps: deps(12), Ops: puts(2)},
	with(api.Op{Kind: api.Make, Key: "list", Value: object(api.List)},
		api.Op{Kind: api.Put, Obj: one, Insert: true, Value: text("x")},
		api.Op{Kind: api.Put, Obj: one, Elem: two, Insert: true, Value: number(-8)},
		api.Op{Kind: api.Make, Obj: one, Elem: two, Insert: true, Value: object(api.Map)},
		api.Op{Kind: api.Del, Obj: one, Elem: two, Preds: []api.Id{two}},
		api.Op{Kind: api.Put, Obj: last, Key: "\x00\xff\"", Value: text("\x00\xff\u00e9"), Preds: []api.Id{one, two, last}},
		api.Op{Kind: api.Put, Obj: last, Elem: last, Value: api.Value{Kind: api.Truth, Num: 1}}),
	with(api.Op{Kind: api.Put, Key: key(20), Value: text(strings.Repeat("t", 60)), Preds: ids(12)},
		api.Op{Kind: api.Inc, Key: "n", Value: number(math.MinInt), Preds: ids(1)},
		api.Op{Kind: api.Inc, Key: "n", Value: number(math.MaxInt), Preds: ids(2)},
		api.Op{Kind: api.Put, Key: "n", Value: api.Value{Kind: api.Count, Num: math.MinInt}}),
}

// C1
func TestCheckTakes(t *testing.T) {
	for _, c := range right {
		checkTold(t, c, api.OK)
	}
}

// C1
func TestCheckActorSeqStart(t *testing.T) {
	for _, f := range []struct {
		most int
		with func(n int) api.Change
	}{
		{99, func(n int) api.Change { return api.Change{Actor: n, Seq: 1, Start: 1} }},
		{1_000_000, func(n int) api.Change { return api.Change{Actor: 1, Seq: n, Start: 1} }},
		{1_000_000, func(n int) api.Change { return api.Change{Actor: 1, Seq: 1, Start: n} }},
	} {
		for _, n := range []int{1, 2, f.most - 1, f.most} {
			checkTold(t, f.with(n), api.OK)
		}
		for _, n := range []int{0, -1, f.most + 1, -f.most, math.MaxInt, math.MinInt} {
			checkTold(t, f.with(n), api.ErrRange)
		}
	}
}

// C1
func TestCheckDeps(t *testing.T) {
	of := func(l ...api.Ref) api.Change { return api.Change{Actor: 1, Seq: 1, Start: 1, Deps: l} }
	for _, many := range []int{0, 1, 11, 12} {
		checkTold(t, of(deps(many)...), api.OK)
	}
	for _, many := range []int{13, 14, 99} {
		checkTold(t, of(deps(many)...), api.ErrFull)
	}
	good, low := api.Ref{Actor: 5, Seq: 1}, api.Ref{Actor: 4, Seq: 9}
	for _, r := range []api.Ref{{}, {Actor: 0, Seq: 1}, {Actor: 1, Seq: 0}, {Actor: 100, Seq: 1}, {Actor: 6, Seq: 1_000_001}, {Actor: math.MinInt, Seq: 1}, {Actor: 6, Seq: math.MaxInt}} {
		checkTold(t, of(r), api.ErrRange)
		checkTold(t, of(good, r), api.ErrRange)
		checkTold(t, of(good, low, r), api.ErrRange)
		checkTold(t, of(append(deps(12), r)...), api.ErrFull)
	}
	checkTold(t, of(good, low), api.ErrOrder)
	checkTold(t, of(good, good), api.ErrOrder)
	checkTold(t, of(good, api.Ref{Actor: 5, Seq: 2}), api.ErrOrder)
	checkTold(t, of(append(deps(12), good)...), api.ErrFull)
}

// C1
func TestCheckHowManyOps(t *testing.T) {
	for _, many := range []int{0, 1, 39, 40} {
		c := with(puts(many)...)
		checkTold(t, c, api.OK)
		c.Start = min(api.MaxNum, api.MaxNum-many+1)
		checkTold(t, c, api.OK)
		if many > 1 {
			c.Start++
			checkTold(t, c, api.ErrRange)
			c.Start = api.MaxNum
			checkTold(t, c, api.ErrRange)
		}
	}
	for _, many := range []int{41, 42, 1000} {
		checkTold(t, with(puts(many)...), api.ErrFull)
	}
}

// C1: what is wrong with a change's head is told ahead of its ops, in the order that the chapter names.
func TestCheckHeadOrder(t *testing.T) {
	unordered := []api.Ref{{Actor: 2, Seq: 1}, {Actor: 1, Seq: 1}}
	wrongOp := api.Op{Kind: api.Put, Key: key(21)}
	for _, c := range []struct {
		c    api.Change
		want api.Errno
	}{
		{api.Change{Actor: 0, Seq: 1, Start: 1, Deps: deps(13), Ops: puts(41)}, api.ErrRange},
		{api.Change{Actor: 1, Seq: 0, Start: 1, Deps: deps(13), Ops: puts(41)}, api.ErrRange},
		{api.Change{Actor: 1, Seq: 1, Start: 0, Deps: unordered, Ops: puts(41)}, api.ErrRange},
		{api.Change{Actor: 1, Seq: 1, Start: math.MaxInt, Deps: unordered, Ops: puts(41)}, api.ErrRange},
		{api.Change{Actor: 1, Seq: 1, Start: api.MaxNum, Deps: unordered, Ops: puts(41)}, api.ErrOrder},
		{api.Change{Actor: 1, Seq: 1, Start: 1, Deps: unordered, Ops: puts(41)}, api.ErrOrder},
		{api.Change{Actor: 1, Seq: 1, Start: 1, Deps: []api.Ref{{}}, Ops: puts(41)}, api.ErrRange},
		{api.Change{Actor: 1, Seq: 1, Start: api.MaxNum, Deps: deps(13), Ops: puts(2)}, api.ErrFull},
		{api.Change{Actor: 1, Seq: 1, Start: api.MaxNum, Ops: puts(41)}, api.ErrFull},
		{api.Change{Actor: 1, Seq: 1, Start: 1, Ops: append([]api.Op{{}}, puts(40)...)}, api.ErrFull},
		{api.Change{Actor: 1, Seq: 1, Start: api.MaxNum, Ops: []api.Op{wrongOp, wrongOp}}, api.ErrRange},
		{api.Change{Actor: 1, Seq: 1, Start: api.MaxNum, Ops: []api.Op{wrongOp}}, api.ErrFull},
		{api.Change{Actor: 1, Seq: 1, Start: 1, Deps: unordered, Ops: []api.Op{wrongOp}}, api.ErrOrder},
	} {
		checkTold(t, c.c, c.want)
	}
}

// C1
func TestCheckKindsAndIds(t *testing.T) {
	for _, kind := range []int{0, -1, 5, 6, 100, math.MinInt, math.MaxInt} {
		checkOpTold(t, changed(func(op *api.Op) { op.Kind = kind }), api.ErrRange)
	}
	for _, a := range []api.Id{root, one, last} {
		checkOpTold(t, changed(func(op *api.Op) { op.Obj = a }), api.OK)
		checkOpTold(t, changed(func(op *api.Op) { op.Key, op.Elem, op.Insert = "", a, true }), api.OK)
	}
	for _, a := range noIds {
		checkOpTold(t, changed(func(op *api.Op) { op.Obj = a }), api.ErrRange)
		checkOpTold(t, changed(func(op *api.Op) { op.Elem = a }), api.ErrRange)
		checkOpTold(t, changed(func(op *api.Op) { op.Key, op.Elem = "", a }), api.ErrRange)
		checkOpTold(t, changed(func(op *api.Op) { op.Key, op.Elem, op.Insert = "", a, true }), api.ErrRange)
	}
	for _, a := range append(slices.Clone(noIds), root) {
		for _, l := range [][]api.Id{{a}, {a, one}, {one, a}, {one, two, a}} {
			checkOpTold(t, changed(func(op *api.Op) { op.Preds = l }), api.ErrRange)
		}
	}
}

// C1
func TestCheckKeyAndPreds(t *testing.T) {
	for _, size := range []int{1, 19, 20} {
		checkOpTold(t, changed(func(op *api.Op) { op.Key = key(size) }), api.OK)
	}
	for _, size := range []int{21, 22, 5000} {
		checkOpTold(t, changed(func(op *api.Op) { op.Key = key(size) }), api.ErrFull)
	}
	// a key is bytes: ten and eleven runes of two
	checkOpTold(t, changed(func(op *api.Op) { op.Key = strings.Repeat("\u00e9", 10) }), api.OK)
	checkOpTold(t, changed(func(op *api.Op) { op.Key = strings.Repeat("\u00e9", 11) }), api.ErrFull)
	for _, many := range []int{0, 1, 11, 12} {
		checkOpTold(t, changed(func(op *api.Op) { op.Preds = ids(many) }), api.OK)
	}
	for _, many := range []int{13, 14, 1000} {
		checkOpTold(t, changed(func(op *api.Op) { op.Preds = ids(many) }), api.ErrFull)
	}
	for _, l := range [][]api.Id{
		{{Num: 1, Actor: 1}, {Num: 1, Actor: 2}},
		{{Num: 1, Actor: 99}, {Num: 2, Actor: 1}},
		{{Num: 1, Actor: 1}, {Num: api.MaxNum, Actor: 1}, last},
	} {
		checkOpTold(t, changed(func(op *api.Op) { op.Preds = l }), api.OK)
		slices.Reverse(l)
		checkOpTold(t, changed(func(op *api.Op) { op.Preds = l }), api.ErrOrder)
	}
	for _, l := range [][]api.Id{{one, one}, {one, two, two}, {two, one, last}, {one, last, two}} {
		checkOpTold(t, changed(func(op *api.Op) { op.Preds = l }), api.ErrOrder)
	}
}

// C1: a Key, or an Elem but the root or Insert, and not both.
func TestCheckPlace(t *testing.T) {
	for _, c := range []struct {
		key    string
		elem   api.Id
		insert bool
		want   api.Errno
	}{
		{"a", root, false, api.OK},
		{"a", one, false, api.ErrShape},
		{"a", root, true, api.ErrShape},
		{"a", one, true, api.ErrShape},
		{"", root, false, api.ErrShape},
		{"", one, false, api.OK},
		{"", root, true, api.OK},
		{"", one, true, api.OK},
	} {
		for _, obj := range []api.Id{root, one} {
			checkOpTold(t, api.Op{Kind: api.Put, Obj: obj, Key: c.key, Elem: c.elem, Insert: c.insert}, c.want)
		}
	}
}

// C1: Insert is of Put or Make, and has no Preds.
func TestCheckInsert(t *testing.T) {
	values := []api.Value{api.Put: null(), api.Make: object(api.Map), api.Del: null(), api.Inc: number(1)}
	for kind := api.Put; kind <= api.Inc; kind++ {
		for _, elem := range []api.Id{root, one} {
			want := api.ErrShape
			if kind == api.Put || kind == api.Make {
				want = api.OK
			}
			op := api.Op{Kind: kind, Elem: elem, Insert: true, Value: values[kind]}
			checkOpTold(t, op, want)
			op.Preds = ids(1)
			checkOpTold(t, op, api.ErrShape)
		}
		// of no Insert every kind may have Preds
		checkOpTold(t, api.Op{Kind: kind, Elem: one, Value: values[kind], Preds: ids(2)}, api.OK)
		checkOpTold(t, api.Op{Kind: kind, Key: "a", Value: values[kind], Preds: ids(2)}, api.OK)
	}
}

// C1: of each kind of op each kind of value.
func TestCheckValues(t *testing.T) {
	may := [][]int{
		api.Put:  {api.Nil, api.Truth, api.Number, api.Text, api.Count},
		api.Make: {api.Map, api.List},
		api.Del:  {api.Nil},
		api.Inc:  {api.Number},
	}
	for kind := api.Put; kind <= api.Inc; kind++ {
		of := func(v api.Value) api.Op { return api.Op{Kind: kind, Key: "a", Value: v, Preds: ids(1)} }
		for valueKind := api.Nil; valueKind <= api.List; valueKind++ {
			want := api.ErrRange
			if slices.Contains(may[kind], valueKind) {
				want = api.OK
			}
			checkOpTold(t, of(api.Value{Kind: valueKind}), want)
			// an object that is one already is none that Make may have, nor any other
			checkOpTold(t, of(api.Value{Kind: valueKind, Obj: one}), api.ErrRange)
			checkOpTold(t, of(api.Value{Kind: valueKind, Obj: noIds[0]}), api.ErrRange)
		}
		for _, v := range noValues {
			checkOpTold(t, of(v), api.ErrRange)
		}
	}
}

// noValues are none that chapter 2 has.
var noValues = []api.Value{
	{Kind: -1}, {Kind: 7}, {Kind: math.MinInt}, {Kind: math.MaxInt},
	{Kind: api.Nil, Num: 1}, {Kind: api.Nil, Text: "x"}, {Kind: api.Nil, Obj: one},
	{Kind: api.Truth, Num: 2}, {Kind: api.Truth, Num: -1}, {Kind: api.Truth, Text: "x"},
	{Kind: api.Number, Text: "x"}, {Kind: api.Number, Obj: one}, {Kind: api.Count, Text: "x"},
	{Kind: api.Text, Text: strings.Repeat("t", 61)}, {Kind: api.Text, Num: 1}, {Kind: api.Text, Text: "x", Obj: one},
	{Kind: api.Map, Num: 1}, {Kind: api.Map, Text: "x"}, {Kind: api.List, Num: -1}, {Kind: api.List, Text: "x"},
}

// C1: Inc and Del have Preds.
func TestCheckNeedsPreds(t *testing.T) {
	for _, at := range []api.Op{{Key: "a"}, {Elem: one}, {Obj: last, Elem: last}} {
		for _, c := range []struct {
			kind int
			v    api.Value
			want api.Errno
		}{
			{api.Put, null(), api.OK},
			{api.Make, object(api.List), api.OK},
			{api.Del, null(), api.ErrShape},
			{api.Inc, number(0), api.ErrShape},
		} {
			op := at
			op.Kind, op.Value = c.kind, c.v
			checkOpTold(t, op, c.want)
			op.Preds = []api.Id{}
			checkOpTold(t, op, c.want)
			op.Preds = ids(1)
			checkOpTold(t, op, api.OK)
		}
	}
}

// C1: where several errors of an op apply, the one that the chapter names first.
func TestCheckOpOrder(t *testing.T) {
	falling := []api.Id{two, one}
	manyFalling := append(ids(12), one)
	manyWrong := append(ids(13), root)
	for _, c := range []struct {
		op   api.Op
		want api.Errno
	}{
		// ErrRange of numbers, ahead of all
		{api.Op{Kind: 0, Key: key(21), Preds: falling}, api.ErrRange},
		{api.Op{Kind: 5}, api.ErrRange},
		{api.Op{Kind: api.Put, Obj: noIds[0], Key: key(21)}, api.ErrRange},
		{api.Op{Kind: api.Put, Elem: noIds[0], Key: key(21)}, api.ErrRange},
		{api.Op{Kind: api.Put, Key: key(21), Preds: []api.Id{root}}, api.ErrRange},
		{api.Op{Kind: api.Put, Key: "a", Preds: manyWrong}, api.ErrRange},
		{api.Op{Kind: api.Put, Key: "a", Preds: []api.Id{two, one, root}}, api.ErrRange},
		{api.Op{Kind: api.Del, Insert: true, Preds: []api.Id{root}}, api.ErrRange},
		// ErrFull, ahead of order, shape and value
		{api.Op{Kind: api.Put, Key: key(21), Preds: falling}, api.ErrFull},
		{api.Op{Kind: api.Put, Key: "a", Preds: manyFalling}, api.ErrFull},
		{api.Op{Kind: api.Put, Key: key(21), Elem: one}, api.ErrFull},
		{api.Op{Kind: api.Put, Key: key(21), Value: object(api.Map)}, api.ErrFull},
		{api.Op{Kind: api.Del, Key: key(21)}, api.ErrFull},
		{api.Op{Kind: api.Put, Preds: ids(13)}, api.ErrFull},
		{api.Op{Kind: api.Put, Insert: true, Preds: ids(13)}, api.ErrFull},
		// ErrOrder, ahead of shape and value
		{api.Op{Kind: api.Put, Preds: falling}, api.ErrOrder},
		{api.Op{Kind: api.Put, Key: "a", Insert: true, Preds: falling}, api.ErrOrder},
		{api.Op{Kind: api.Put, Insert: true, Preds: falling}, api.ErrOrder},
		{api.Op{Kind: api.Put, Key: "a", Value: object(api.Map), Preds: falling}, api.ErrOrder},
		// ErrShape of the place, ahead of the value
		{api.Op{Kind: api.Put, Value: object(api.Map)}, api.ErrShape},
		{api.Op{Kind: api.Put, Key: "a", Elem: one, Value: noValues[0]}, api.ErrShape},
		{api.Op{Kind: api.Inc, Insert: true, Value: null()}, api.ErrShape},
		{api.Op{Kind: api.Put, Insert: true, Value: object(api.Map), Preds: ids(1)}, api.ErrShape},
		// ErrRange of the value, ahead of the Preds that are needed
		{api.Op{Kind: api.Inc, Key: "a", Value: null()}, api.ErrRange},
		{api.Op{Kind: api.Inc, Key: "a", Value: api.Value{Kind: api.Count}}, api.ErrRange},
		{api.Op{Kind: api.Del, Key: "a", Value: number(0)}, api.ErrRange},
		{api.Op{Kind: api.Del, Elem: one, Value: api.Value{Kind: api.Nil, Num: 1}}, api.ErrRange},
	} {
		checkOpTold(t, c.op, c.want)
		// op by op: those ahead are told first, whatever they have
		checkTold(t, with(puts(1)[0], c.op), c.want)
		checkTold(t, with(c.op, api.Op{}), c.want)
		checkTold(t, with(api.Op{Kind: api.Del, Key: "a"}, c.op), api.ErrShape)
		checkTold(t, with(api.Op{Kind: api.Put, Key: "a", Preds: falling}, c.op), api.ErrOrder)
	}
}

// C2
func TestIds(t *testing.T) {
	for _, c := range []struct {
		actor, start, many int
	}{
		{1, 1, 0}, {1, 1, 1}, {3, 12, 3}, {99, 999_961, 40}, {99, 1_000_000, 1}, {7, 500, 40}, {99, 1_000_000, 0},
	} {
		got := Ids(api.Change{Actor: c.actor, Seq: 1, Start: c.start, Ops: puts(c.many)})
		var want []api.Id
		for n := c.start; n < c.start+c.many; n++ {
			want = append(want, api.Id{Num: n, Actor: c.actor})
		}
		if !slices.Equal(got, want) {
			t.Errorf("Ids of %v: %v, want %v", c, got, want)
		}
	}
}

// C2, P1: of a change that Check does not take, too.
func TestIdsOfWrongChanges(t *testing.T) {
	for _, c := range []api.Change{
		{Actor: 0, Start: 0, Ops: make([]api.Op, 2)},
		{Actor: -5, Start: -1, Ops: make([]api.Op, 3)},
		{Actor: 100, Start: api.MaxNum, Ops: make([]api.Op, 50)},
	} {
		got := Ids(c)
		if len(got) != len(c.Ops) {
			t.Fatalf("Ids of %v: %v", c, got)
		}
		for i, a := range got {
			if a != (api.Id{Num: c.Start + i, Actor: c.Actor}) {
				t.Errorf("Ids of %v: %v", c, got)
			}
		}
	}
	if got := Ids(api.Change{Actor: 1, Start: math.MaxInt, Ops: make([]api.Op, 2)}); len(got) != 2 {
		t.Errorf("Ids from the greatest number on: %v", got)
	}
}

// P2: Check and Ids write into nothing, and what Ids answers is fresh.
func TestNothingIsWritten(t *testing.T) {
	c, same := right[5], right[5]
	c.Ops = slices.Clone(c.Ops)
	Check(c)
	Ids(c)[0] = last
	if Ids(c)[0] != one {
		t.Errorf("Ids, again: %v", Ids(c))
	}
	if !reflect.DeepEqual(c, same) {
		t.Errorf("the change was written into: %v", c)
	}
}
