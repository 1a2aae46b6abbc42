package words

import (
	"fmt"
	"reflect"
	"strings"
	"testing"

	"commonbook/api"
	"commonbook/doc"
	"commonbook/plain"
)

var root = api.Id{}

// the list of listed.
var list = oid(1, 1)

func oid(num, actor int) api.Id { return api.Id{Num: num, Actor: actor} }

func number(n int) api.Value { return api.Value{Kind: api.Number, Num: n} }

func text(s string) api.Value { return api.Value{Kind: api.Text, Text: s} }

func must(t testing.TB, err error) {
	t.Helper()
	if err != nil {
		t.Fatal(err)
	}
}

// made is for calls that give the id of what they make.
func made(t testing.TB) func(api.Id, error) api.Id {
	return func(a api.Id, err error) api.Id {
		t.Helper()
		must(t, err)
		return a
	}
}

func hand(t testing.TB, actor int) *doc.Doc {
	t.Helper()
	d, err := doc.New(actor)
	must(t, err)
	return d
}

func fork(t testing.TB, d *doc.Doc, actor int) *doc.Doc {
	t.Helper()
	f, err := d.Fork(actor)
	must(t, err)
	return f
}

func merge(t testing.TB, d, o *doc.Doc) {
	t.Helper()
	_, err := d.Merge(o)
	must(t, err)
}

func commit(t testing.TB, d *doc.Doc) {
	t.Helper()
	_, err := d.Commit()
	must(t, err)
}

func splice1(t testing.TB, d *doc.Doc, obj api.Id, at, gone int, s string) {
	t.Helper()
	if err := Splice(d, obj, at, gone, s); err != nil {
		t.Fatalf("Splice at %d of %d for %q: %v", at, gone, s, err)
	}
}

// listed is a hand, actor 1, with a list 1@1 at l; its elements are 2@1, 3@1 and so on, and all is in its book.
func listed(t testing.TB, values ...api.Value) *doc.Doc {
	t.Helper()
	d := hand(t, 1)
	made(t)(d.Make(root, "l", api.List))
	for i, v := range values {
		if d.Pending() == api.MaxOps {
			commit(t, d)
		}
		must(t, d.Insert(list, i, v))
	}
	commit(t, d)
	return d
}

// texted is listed, of the runes of a text.
func texted(t testing.TB, s string) *doc.Doc {
	t.Helper()
	return listed(t, runesOf(s)...)
}

func runesOf(s string) (l []api.Value) {
	for _, r := range []rune(s) {
		l = append(l, text(string(r)))
	}
	return l
}

func wantRead(t testing.TB, what string, d *doc.Doc, obj api.Id, want string) {
	t.Helper()
	if got, err := Read(d, obj); got != want || err != nil {
		t.Errorf("%s: Read of %v: got %q, %v, want %q", what, obj, got, err, want)
	}
}

// wantRunes asks also that each element is one rune.
func wantRunes(t testing.TB, what string, d *doc.Doc, obj api.Id, want string) {
	t.Helper()
	wantRead(t, what, d, obj, want)
	n, err := d.Len(obj)
	if runes := []rune(want); n != len(runes) || err != nil {
		t.Errorf("%s: Len of %v: got %d, %v, want %d", what, obj, n, err, len(runes))
		return
	}
	for i, v := range runesOf(want) {
		if got, err := d.At(obj, i); !reflect.DeepEqual(got, []api.Value{v}) || err != nil {
			t.Errorf("%s: At %d: got %v, %v, want %v", what, i, got, err, v)
		}
	}
}

// insert is the op that Splice is to add for a rune.
func insert(behind api.Id, s string) api.Op {
	return api.Op{Kind: api.Put, Obj: list, Elem: behind, Insert: true, Value: text(s)}
}

// remove is the op that Splice is to add for an element.
func remove(elem api.Id, preds ...api.Id) api.Op {
	return api.Op{Kind: api.Del, Obj: list, Elem: elem, Preds: preds}
}

// wantOps commits what is pending, and asks for just these ops.
func wantOps(t testing.TB, what string, d *doc.Doc, want ...api.Op) {
	t.Helper()
	if n := d.Pending(); n != len(want) {
		t.Fatalf("%s: %d pending, want %d", what, n, len(want))
	}
	r, err := d.Commit()
	must(t, err)
	c, err := d.Book().Change(r)
	must(t, err)
	if !reflect.DeepEqual(c.Ops, want) {
		t.Errorf("%s: got ops %+v, want %+v", what, c.Ops, want)
	}
}

// W1: what comes of a Splice at each place, with something gone or nothing, and something in or nothing.
func TestSplice(t *testing.T) {
	for _, c := range []struct {
		old      string
		at, gone int
		s, want  string
	}{
		{"", 0, 0, "", ""},
		{"", 0, 0, "a", "a"},
		{"", 0, 0, "hello", "hello"},
		{"abc", 0, 0, "", "abc"},
		{"abc", 3, 0, "", "abc"},
		{"abc", 0, 0, "xyz", "xyzabc"},
		{"abc", 1, 0, "xyz", "axyzbc"},
		{"abc", 2, 0, "xyz", "abxyzc"},
		{"abc", 3, 0, "xyz", "abcxyz"},
		{"abc", 0, 1, "", "bc"},
		{"abc", 1, 1, "", "ac"},
		{"abc", 2, 1, "", "ab"},
		{"abc", 0, 2, "", "c"},
		{"abc", 1, 2, "", "a"},
		{"abc", 0, 3, "", ""},
		{"abc", 0, 1, "xyz", "xyzbc"},
		{"abc", 1, 1, "xyz", "axyzc"},
		{"abc", 2, 1, "xyz", "abxyz"},
		{"abc", 0, 3, "xyz", "xyz"},
		{"abc", 0, 3, "x", "x"},
		{"abc", 1, 2, "aa", "aaa"},
		{"aaa", 1, 1, "a", "aaa"},
		{"hello world", 3, 1, "zz", "helzzo world"},
		{"hello world", 4, 7, "", "hell"},
		{"a\u00e9\u20ac\U0001f600b", 1, 0, "\u00e9\u20ac\U0001f600", "a\u00e9\u20ac\U0001f600\u00e9\u20ac\U0001f600b"},
		{"a\u00e9\u20ac\U0001f600b", 1, 3, "xyz", "axyzb"},
		{"a\u00e9\u20ac\U0001f600b", 3, 1, "", "a\u00e9\u20acb"},
		{"a\u00e9\u20ac\U0001f600b", 5, 0, "\U0001f600", "a\u00e9\u20ac\U0001f600b\U0001f600"},
		{"a", 1, 0, "\x00\x7f\u0080\u07ff\u0800\ud7ff\ue000\ufffd\uffff\U00010000\U0010ffff", "a\x00\x7f\u0080\u07ff\u0800\ud7ff\ue000\ufffd\uffff\U00010000\U0010ffff"},
		{"ab", 1, 0, "e\u0301\r\n\"\\", "ae\u0301\r\n\"\\b"},
	} {
		what := fmt.Sprintf("%q at %d of %d for %q", c.old, c.at, c.gone, c.s)
		d := texted(t, c.old)
		splice1(t, d, list, c.at, c.gone, c.s)
		wantRunes(t, what, d, list, c.want)
		if want := c.gone + len([]rune(c.s)); d.Pending() != want {
			t.Errorf("%s: %d pending, want %d", what, d.Pending(), want)
		}
		if d.Rollback(); len(d.All()) != 1+len([]rune(c.old))/api.MaxOps {
			t.Errorf("%s: %d changes", what, len(d.All()))
		}
		wantRunes(t, what+", rolled back", d, list, c.old)
	}
}

// W1: first the gone elements are Removed, the first one first, and then the runes come in one by one, each behind the one ahead.
func TestSpliceOps(t *testing.T) {
	d := texted(t, "abcde")
	splice1(t, d, list, 1, 3, "x\u20acz")
	wantOps(t, "in the middle", d,
		remove(oid(3, 1), oid(3, 1)), remove(oid(4, 1), oid(4, 1)), remove(oid(5, 1), oid(5, 1)),
		insert(oid(2, 1), "x"), insert(oid(10, 1), "\u20ac"), insert(oid(11, 1), "z"))
	wantRunes(t, "in the middle", d, list, "ax\u20acze")

	d = texted(t, "ab")
	splice1(t, d, list, 0, 0, "xy")
	wantOps(t, "at the beginning", d, insert(root, "x"), insert(oid(4, 1), "y"))

	d = texted(t, "ab")
	splice1(t, d, list, 0, 2, "xy")
	wantOps(t, "all of it", d, remove(oid(2, 1), oid(2, 1)), remove(oid(3, 1), oid(3, 1)), insert(root, "x"), insert(oid(6, 1), "y"))

	d = texted(t, "ab")
	splice1(t, d, list, 2, 0, "x")
	wantOps(t, "at the end", d, insert(oid(3, 1), "x"))

	d = texted(t, "ab")
	splice1(t, d, list, 1, 1, "")
	wantOps(t, "nothing in", d, remove(oid(3, 1), oid(3, 1)))
}

// W1: what is pending is a part of the text already, and Splice goes behind it.
func TestSpliceBehindPending(t *testing.T) {
	d := hand(t, 1)
	must(t, d.Put(root, "k", number(1)))
	l := made(t)(d.Make(root, "l", api.List))
	splice1(t, d, l, 0, 0, "abc")
	splice1(t, d, l, 1, 1, "xy")
	splice1(t, d, l, 4, 0, "!")
	wantRunes(t, "pending", d, l, "axyc!")
	must(t, d.Remove(l, 0))
	splice1(t, d, l, 0, 0, "\u00e9")
	wantRunes(t, "pending", d, l, "\u00e9xyc!")
	if d.Pending() != 11 {
		t.Errorf("%d pending, want 11", d.Pending())
	}
	commit(t, d)
	wantRunes(t, "in the book", d, l, "\u00e9xyc!")
	if got, want := d.Text(), `{"k":1,"l":["\c3\a9","x","y","c","!"]}`; got != want {
		t.Errorf("Text: got %s, want %s", got, want)
	}
}

// W1: an index counts the elements that have values, and each of them, Text or not.
func TestSpliceOfOthers(t *testing.T) {
	d := listed(t, text("a"), number(5), text("bcd"), api.Value{}, text("e"))
	must(t, d.Remove(list, 3))
	made(t)(d.InsertNew(list, 4, api.Map))
	commit(t, d)
	splice1(t, d, list, 1, 1, "xy")
	wantRead(t, "a number is gone", d, list, "axybcde")
	splice1(t, d, list, 3, 1, "")
	wantRead(t, "a longer text is gone", d, list, "axye")
	splice1(t, d, list, 5, 0, "z")
	wantRead(t, "behind a map", d, list, "axyez")
	splice1(t, d, list, 4, 1, "w")
	wantRead(t, "a map is gone", d, list, "axyewz")
	if n, _ := d.Len(list); n != 6 {
		t.Errorf("Len: got %d", n)
	}
}

// W1: an element with several values goes with all of them.
func TestSpliceOfSeveralValues(t *testing.T) {
	a := texted(t, "abc")
	b := fork(t, a, 2)
	must(t, a.Set(list, 1, text("x")))
	must(t, b.Set(list, 1, text("y")))
	commit(t, a)
	commit(t, b)
	merge(t, a, b)
	wantRead(t, "the first values", a, list, "ayc")
	splice1(t, a, list, 1, 1, "z")
	wantOps(t, "all values", a, remove(oid(3, 1), oid(5, 1), oid(5, 2)), insert(oid(2, 1), "z"))
	wantRunes(t, "all values", a, list, "azc")
}

// W1: a list in a list, one in a map, and one that no place has any more.
func TestSpliceOfAnyList(t *testing.T) {
	d := hand(t, 1)
	m := made(t)(d.Make(root, "m", api.Map))
	l := made(t)(d.Make(m, "l", api.List))
	in := made(t)(d.InsertNew(l, 0, api.List))
	lost := made(t)(d.Make(root, "lost", api.List))
	must(t, d.Del(root, "lost"))
	for _, obj := range []api.Id{l, in, lost} {
		splice1(t, d, obj, 0, 0, "ab")
		splice1(t, d, obj, 1, 1, "\u00e9")
		wantRead(t, "a list", d, obj, "a\u00e9")
	}
}

// W1: gone, what comes in and what is pending are MaxOps together, and one more is ErrFull.
func TestSpliceMaxOps(t *testing.T) {
	for _, pending := range []int{0, 1, 17, api.MaxOps - 1, api.MaxOps} {
		for _, gone := range []int{0, 1, 5, 20} {
			left := api.MaxOps - gone - pending
			for _, in := range []int{0, 1, 4, left, left + 1, api.MaxOps, api.MaxOps + 1} {
				if in >= 0 {
					wantMaxOps(t, pending, gone, in)
				}
			}
		}
	}
}

func wantMaxOps(t *testing.T, pending, gone, in int) {
	t.Helper()
	what := fmt.Sprintf("%d pending, %d gone, %d in", pending, gone, in)
	d := texted(t, strings.Repeat("a", 25))
	for i := range pending {
		must(t, d.Put(root, "k", number(i)))
	}
	told := plain.Told(Splice(d, list, 3, gone, strings.Repeat("\u20ac", in)))
	want, wantPending, wantTold := "aaa"+strings.Repeat("\u20ac", in)+strings.Repeat("a", 22-gone), pending+gone+in, api.OK
	if pending+gone+in > api.MaxOps {
		want, wantPending, wantTold = strings.Repeat("a", 25), pending, api.ErrFull
	}
	if told != wantTold || d.Pending() != wantPending {
		t.Errorf("%s: got %v, and %d pending, want %v, and %d", what, told, d.Pending(), wantTold, wantPending)
	}
	wantRunes(t, what, d, list, want)
}

// W1: Read gives the Texts alone, as they are, of those elements that have values.
func TestRead(t *testing.T) {
	d := listed(t)
	wantRead(t, "empty", d, list, "")
	d = listed(t, number(5))
	wantRead(t, "a number alone", d, list, "")
	d = listed(t, text(""), text("hello"), number(5), text(" "), api.Value{}, api.Value{Kind: api.Truth, Num: 1}, text("\xff\xfe"),
		api.Value{Kind: api.Count, Num: 3}, text("\u00e9\u20ac"), text("\U0001f600"), text(strings.Repeat("z", api.MaxText)))
	inMap := made(t)(d.InsertNew(list, 2, api.Map))
	inList := made(t)(d.InsertNew(list, 4, api.List))
	must(t, d.Put(inMap, "k", text("no")))
	must(t, d.Insert(inList, 0, text("no")))
	want := "hello \xff\xfe\u00e9\u20ac\U0001f600" + strings.Repeat("z", api.MaxText)
	wantRead(t, "pending", d, list, want)
	commit(t, d)
	wantRead(t, "in the book", d, list, want)
	wantRead(t, "within", d, inList, "no")
	must(t, d.Remove(list, 1))
	must(t, d.Set(list, 0, text("a")))
	must(t, d.Set(list, 1, text("b")))
	wantRead(t, "removed and set", d, list, "ab"+want[len("hello"):])
	if _, err := Read(d, inMap); plain.Told(err) != api.ErrKind {
		t.Errorf("Read of a map: got %v", err)
	}
}

// W1: of an element with several values the first one counts, also where another one is the Text.
func TestReadFirstValues(t *testing.T) {
	a := texted(t, "abcd")
	b := fork(t, a, 2)
	must(t, a.Set(list, 0, text("x")))
	must(t, b.Set(list, 0, number(1)))
	must(t, a.Set(list, 1, number(2)))
	must(t, b.Set(list, 1, text("y")))
	must(t, a.Set(list, 2, text("z")))
	must(t, a.Remove(list, 3))
	must(t, b.Remove(list, 3))
	must(t, b.Remove(list, 2))
	commit(t, a)
	commit(t, b)
	merge(t, a, b)
	merge(t, b, a)
	for _, d := range []*doc.Doc{a, b} {
		wantRead(t, "merged", d, list, "yz")
	}
	must(t, a.Set(list, 0, text("\u00e9")))
	wantRead(t, "set again", a, list, "\u00e9yz")
}

// W1: runes that came in at the same time stand together, and all hands read the same.
func TestSpliceAtTheSameTime(t *testing.T) {
	a := texted(t, "hello world")
	b, c := fork(t, a, 2), fork(t, a, 3)
	splice1(t, a, list, 5, 0, " my")
	splice1(t, b, list, 5, 0, " your")
	splice1(t, c, list, 0, 5, "bye")
	splice1(t, b, list, 12, 4, "OLD")
	for _, d := range []*doc.Doc{a, b, c} {
		commit(t, d)
	}
	wantRead(t, "alone", b, list, "hello your wOLD")
	for _, d := range []*doc.Doc{a, b, c} {
		for _, o := range []*doc.Doc{c, a, b} {
			merge(t, d, o)
		}
		wantRunes(t, "merged", d, list, "bye your my wOLD")
	}
	f := fork(t, a, 4)
	splice1(t, a, list, 3, 5, "")
	splice1(t, f, list, 3, 6, "!")
	commit(t, a)
	commit(t, f)
	merge(t, a, f)
	wantRunes(t, "gone twice", a, list, "bye!my wOLD")
}

// P2: what Read answers is not changed by what is done later.
func TestReadIsKept(t *testing.T) {
	d := texted(t, "abc")
	got, err := Read(d, list)
	must(t, err)
	splice1(t, d, list, 0, 3, "xyz")
	if again, _ := Read(d, list); got != "abc" || again != "xyz" {
		t.Errorf("got %q and %q", got, again)
	}
}
