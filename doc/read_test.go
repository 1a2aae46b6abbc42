package doc

import (
	"fmt"
	"math"
	"reflect"
	"slices"
	"strings"
	"testing"

	"commonbook/api"
	"commonbook/state"
)

func wantValues(t testing.TB, what string, d *Doc, obj api.Id, key string, want ...api.Value) {
	t.Helper()
	got, err := d.Get(obj, key)
	if err != nil || !slices.Equal(got, want) {
		t.Errorf("%s: Get %q: got %v, %v, want %v", what, key, got, err, want)
	}
}

// H3: Get gives all values of a key, the one that was said last first; of one that has none, none.
func TestGet(t *testing.T) {
	a := thingsOf(t)
	d := a.Doc
	wantValues(t, "a Count", d, root, "k", count(3))
	wantValues(t, "a map", d, root, "m", object(api.Map, a.aMap))
	wantValues(t, "a list", d, root, "l", object(api.List, a.list))
	wantValues(t, "in a map", d, a.aMap, "k", count(1))
	wantValues(t, "in a lost map", d, a.lost, "k", count(5))
	wantValues(t, "in a pending map", d, a.newer, "k", count(2))
	wantValues(t, "what was deleted", d, root, "x")
	wantValues(t, "what never was", d, root, "none")
	wantValues(t, "a key that is too long", d, root, strings.Repeat("k", api.MaxKey+1))
	for _, v := range []api.Value{{}, {Kind: api.Truth, Num: 1}, num(-4), text("a\x00\xff"), count(0)} {
		must(t, d.Put(root, "v", v))
		wantValues(t, "of each kind", d, root, "v", v)
	}
}

// H3: values that were said at the same time, falling by their ids.
func TestGetConflict(t *testing.T) {
	d := hand(t, 1)
	take(t, d, concurrent("a", num(1), text("b"), count(3))...)
	take(t, d, api.Change{Actor: 1, Seq: 1, Start: 2, Ops: []api.Op{{Kind: api.Make, Key: "a", Value: object(api.List, root)}}})
	wantValues(t, "at the same time", d, root, "a", object(api.List, api.Id{Num: 2, Actor: 1}), count(3), text("b"), num(1))
	wantText(t, "the first is the value", d, `{"a":[]}`)
}

// H3: At gives all values of an element.
func TestAt(t *testing.T) {
	a, l := row(t, 3)
	commit(t, a)
	b := fork(t, a, 2)
	must(t, a.Set(l, 1, num(5)), b.Set(l, 1, num(6)), b.Remove(l, 0), b.Insert(l, 2, num(7)))
	commit(t, a)
	commit(t, b)
	merge(t, a, b, 1)
	for at, want := range [][]api.Value{{num(6), num(5)}, {num(2)}, {num(7)}} {
		got, err := a.At(l, at)
		if err != nil || !slices.Equal(got, want) {
			t.Errorf("At %d: got %v, %v, want %v", at, got, err, want)
		}
	}
	wantText(t, "At", a, `{"l":[6,2,7]}`)
	for _, at := range []int{-1, 3, math.MinInt, math.MaxInt} {
		got, err := a.At(l, at)
		wantTold(t, fmt.Sprint("At ", at), err, api.ErrRange)
		if len(got) > 0 {
			t.Errorf("At %d with an error: got %v", at, got)
		}
	}
}

// H3: Keys that have values, by bytes, and Len of what has any.
func TestKeysAndLen(t *testing.T) {
	a := thingsOf(t)
	d := a.Doc
	must(t, d.Put(root, "\xff", num(1)), d.Put(root, "B", num(1)), d.Put(root, "é", num(1)), d.Put(root, "kk", num(1)), d.Put(root, "\x00", num(1)))
	for _, c := range []struct {
		obj  api.Id
		keys []string
	}{
		{root, []string{"\x00", "B", "k", "kk", "l", "m", "p", "q", "é", "\xff"}}, {a.aMap, []string{"k"}}, {a.lost, []string{"k"}}, {a.newer, []string{"k"}},
	} {
		got, err := d.Keys(c.obj)
		if err != nil || !slices.Equal(got, c.keys) {
			t.Errorf("Keys of %v: got %q, %v, want %q", c.obj, got, err, c.keys)
		}
		if n, err := d.Len(c.obj); err != nil || n != len(c.keys) {
			t.Errorf("Len of %v: got %d, %v", c.obj, n, err)
		}
	}
	must(t, d.Remove(a.list, 0), d.Del(a.newer, "k"))
	for obj, want := range map[api.Id]int{a.list: 1, a.losing: 1, a.newest: 1, a.newer: 0} {
		if n, err := d.Len(obj); err != nil || n != want {
			t.Errorf("Len of %v: got %d, %v, want %d", obj, n, err, want)
		}
	}
	if got, err := d.Keys(a.newer); err != nil || len(got) > 0 {
		t.Errorf("Keys of an empty map: got %q, %v", got, err)
	}
}

// Places gives what At gives of each element that has values, beside its element and the ids.
func TestPlaces(t *testing.T) {
	a, l := row(t, 4)
	commit(t, a)
	b := fork(t, a, 2)
	must(t, a.Set(l, 1, num(5)), b.Set(l, 1, num(6)), b.Remove(l, 0), b.Insert(l, 2, num(7)))
	commit(t, a)
	commit(t, b)
	merge(t, a, b, 1)
	must(t, a.Remove(l, 3), a.Insert(l, 0, text("x")))
	want := []state.Place{
		{Obj: l, Elem: api.Id{Num: 10, Actor: 1}, All: []api.Value{text("x")}, Ids: ids(10, 1)},
		{Obj: l, Elem: api.Id{Num: 3, Actor: 1}, All: []api.Value{num(6), num(5)}, Ids: ids(6, 2, 6, 1)},
		{Obj: l, Elem: api.Id{Num: 4, Actor: 1}, All: []api.Value{num(2)}, Ids: ids(4, 1)},
		{Obj: l, Elem: api.Id{Num: 8, Actor: 2}, All: []api.Value{num(7)}, Ids: ids(8, 2)},
	}
	for range 2 {
		got, err := a.Places(l)
		if err != nil || !reflect.DeepEqual(got, want) {
			t.Fatalf("Places: got %v, %v, want %v", got, err, want)
		}
		// They are the caller's.
		clear(got[1].All)
		clear(got[1].Ids)
		clear(got)
	}
	c := thingsOf(t)
	for obj, want := range map[api.Id]api.Errno{root: api.ErrKind, c.aMap: api.ErrKind, c.lost: api.ErrKind, c.newer: api.ErrKind,
		{Num: 3, Actor: 1}: api.ErrNone, {Num: 99, Actor: 1}: api.ErrNone, {Num: math.MinInt, Actor: -1}: api.ErrNone,
		c.list: api.OK, c.losing: api.OK, c.newest: api.OK} {
		got, err := c.Places(obj)
		wantTold(t, fmt.Sprint("Places of ", obj), err, want)
		if (len(got) > 0) != (want == api.OK) {
			t.Errorf("Places of %v: got %v", obj, got)
		}
	}
}

// H3: errors of reads, and of several the one that is named first.
func TestReadErrors(t *testing.T) {
	a := thingsOf(t)
	none := api.Id{Num: 3, Actor: 1}
	for _, obj := range []api.Id{none, {Num: 99, Actor: 1}, {Num: 1, Actor: 2}, {Num: math.MinInt, Actor: -1}, {Num: 17, Actor: 1}, root, a.aMap, a.lost, a.newer, a.list, a.losing, a.newest} {
		isMap := slices.Contains([]api.Id{root, a.aMap, a.lost, a.newer}, obj)
		isList := slices.Contains([]api.Id{a.list, a.losing, a.newest}, obj)
		isNone := fault{!isMap && !isList, api.ErrNone}
		for _, key := range []string{"", "k", "other", strings.Repeat("k", 99)} {
			v, err := a.Get(obj, key)
			want := first(isNone, fault{isList, api.ErrKind}, fault{key == "", api.ErrRange})
			wantTold(t, fmt.Sprintf("Get of %v, %q", obj, key), err, want)
			if isIn := want == api.OK && key == "k"; isIn != (len(v) == 1) {
				t.Errorf("Get of %v, %q: got %v", obj, key, v)
			}
		}
		for _, at := range []int{math.MinInt, -1, 0, 2, math.MaxInt} {
			v, err := a.At(obj, at)
			want := first(isNone, fault{isMap, api.ErrKind}, fault{at != 0, api.ErrRange})
			wantTold(t, fmt.Sprintf("At of %v, %d", obj, at), err, want)
			if (want == api.OK) != (len(v) == 1) {
				t.Errorf("At of %v, %d: got %v", obj, at, v)
			}
		}
		keys, err := a.Keys(obj)
		wantTold(t, fmt.Sprint("Keys of ", obj), err, first(isNone, fault{isList, api.ErrKind}))
		if err != nil && len(keys) > 0 {
			t.Errorf("Keys of %v with an error: got %v", obj, keys)
		}
		many, err := a.Len(obj)
		wantTold(t, fmt.Sprint("Len of ", obj), err, first(isNone))
		if err != nil && many != 0 {
			t.Errorf("Len of %v with an error: got %v", obj, many)
		}
	}
}

// H3: Text as chapter 7 has it, with what is pending.
func TestText(t *testing.T) {
	d := hand(t, 1)
	l := made(t)(d.Make(root, "a", api.List))
	commit(t, d)
	d2 := hand(t, 2)
	merge(t, d2, d, 1)
	must(t, d.Insert(l, 0, num(5)), d2.Insert(l, 0, num(6)))
	commit(t, d)
	commit(t, d2)
	merge(t, d, d2, 1)
	wantText(t, "the chapter's own", d, `{"a":[6,5]}`)
	must(t, d.Put(root, "\"", text("\\")), d.Insert(l, 1, api.Value{}))
	wantText(t, "with what is pending", d, `{"\"":"\\","a":[6,null,5]}`)
	d.Rollback()
	wantText(t, "without", d, `{"a":[6,5]}`)
}
