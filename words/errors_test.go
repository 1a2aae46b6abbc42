package words

import (
	"fmt"
	"math"
	"reflect"
	"strings"
	"testing"

	"commonbook/api"
	"commonbook/doc"
	"commonbook/plain"
)

func wantTold(t testing.TB, what string, err error, want api.Errno) {
	t.Helper()
	if got := plain.Told(err); got != want {
		t.Errorf("%s: got %v, want %v", what, got, want)
	}
}

// notUtf8 are texts that are no UTF-8.
var notUtf8 = []string{
	"\x80", "\xbf", "\xff", "\xfe", "a\x80", "\x80a", "a\xffb", // lone bytes
	"\xc3", "\xe2\x82", "\xe2", "\xf0\x9f\x98", "\xf0\x9f", "\xf0", "a\xc3b", "\xe2\x82a", "\xf0\x9f\x98\xc3\xa9", // cut off
	"\xc0\x80", "\xc1\xbf", "\xe0\x80\x80", "\xe0\x9f\xbf", "\xf0\x80\x80\x80", "\xf0\x8f\xbf\xbf", // over-long
	"\xed\xa0\x80", "\xed\xbf\xbf", "\xed\xa0\xbd\xed\xb8\x80", // surrogates
	"\xf4\x90\x80\x80", "\xf5\x80\x80\x80", "\xf8\x88\x80\x80\x80", // beyond the last rune
	strings.Repeat("a", 5000) + "\xc3",
}

// busy is a hand with something pending: a list 1@1 of five runes, two of them pending, a map 7@1, a list that is pending.
func busy(t testing.TB) *doc.Doc {
	t.Helper()
	d := texted(t, "abc")
	made(t)(d.Make(root, "m", api.Map))
	must(t, d.Put(root, "k", number(1)))
	must(t, d.Insert(list, 1, text("x")))
	must(t, d.Insert(list, 5-1, text("y")))
	made(t)(d.Make(root, "new", api.List))
	return d
}

// wantNothingDone holds a hand that was asked for what can't be against one made just so that was not.
func wantNothingDone(t testing.TB, what string, d, untouched *doc.Doc) {
	t.Helper()
	if d.Pending() != untouched.Pending() || d.Text() != untouched.Text() || !reflect.DeepEqual(d.All(), untouched.All()) {
		t.Errorf("%s: got %s with %d pending, want %s with %d", what, d.Text(), d.Pending(), untouched.Text(), untouched.Pending())
	}
	r, err := d.Commit()
	same, sameErr := untouched.Commit()
	if r != same || plain.Told(err) != plain.Told(sameErr) || !reflect.DeepEqual(d.All(), untouched.All()) {
		t.Errorf("%s: committed %v, %v, and has %+v, want %v, %v and %+v", what, r, err, d.All(), same, sameErr, untouched.All())
	}
}

// W1: ErrSyntax of what is no UTF-8, ahead of all else.
func TestSpliceSyntax(t *testing.T) {
	d := busy(t)
	for _, s := range notUtf8 {
		for _, obj := range []api.Id{list, root, oid(5, 1), oid(99, 9), oid(-1, math.MaxInt)} {
			for _, at := range []int{0, 5, -1, 6, math.MaxInt, math.MinInt} {
				for _, gone := range []int{0, 2, -1, 6, math.MaxInt, math.MinInt} {
					wantTold(t, fmt.Sprintf("%.20q in %v at %d of %d", s, obj, at, gone), Splice(d, obj, at, gone, s), api.ErrSyntax)
				}
			}
		}
	}
	wantNothingDone(t, "no UTF-8", d, busy(t))
}

// W1: ErrNone of what is no object, and ErrKind of a map, ahead of what is wrong with numbers, and of too much.
func TestSpliceObject(t *testing.T) {
	d := busy(t)
	told := map[api.Id]api.Errno{
		root: api.ErrKind, oid(5, 1): api.ErrKind, oid(2, 1): api.ErrNone, oid(6, 1): api.ErrNone, oid(10, 1): api.ErrNone, oid(1, 2): api.ErrNone,
		oid(99, 9): api.ErrNone, oid(0, 1): api.ErrNone, oid(1, 0): api.ErrNone, oid(-1, -1): api.ErrNone, oid(math.MaxInt, math.MinInt): api.ErrNone,
	}
	for obj, want := range told {
		for _, at := range []int{0, 1, -1, 6, math.MaxInt, math.MinInt} {
			for _, gone := range []int{0, 1, -1, 6, math.MaxInt, math.MinInt} {
				for _, s := range []string{"", "a", strings.Repeat("a", api.MaxOps+1)} {
					wantTold(t, fmt.Sprintf("%.20q in %v at %d of %d", s, obj, at, gone), Splice(d, obj, at, gone, s), want)
				}
			}
		}
		got, err := Read(d, obj)
		if wantTold(t, fmt.Sprintf("Read of %v", obj), err, want); got != "" {
			t.Errorf("Read of %v with an error: got %q", obj, got)
		}
	}
	wantNothingDone(t, "no list", d, busy(t))
}

// W1: what was pending, and is rolled back, is no list any more.
func TestObjectRolledBack(t *testing.T) {
	d := busy(t)
	pending := oid(9, 1)
	splice1(t, d, pending, 0, 0, "ab")
	wantRunes(t, "pending", d, pending, "ab")
	d.Rollback()
	wantTold(t, "Splice", Splice(d, pending, 0, 0, "a"), api.ErrNone)
	_, err := Read(d, pending)
	wantTold(t, "Read", err, api.ErrNone)
	wantRunes(t, "in the book", d, list, "abc")
}

// W1: ErrRange of each at and gone that are none, ahead of too much; the others are taken.
func TestSpliceRange(t *testing.T) {
	numbers := []int{math.MinInt, math.MinInt + 1, -40, -2, -1, 0, 1, 2, 3, 4, 5, 6, 7, 40, 41, math.MaxInt - 5, math.MaxInt - 1, math.MaxInt}
	d := busy(t)
	for _, at := range numbers {
		for _, gone := range numbers {
			for _, s := range []string{"", "z", strings.Repeat("z", api.MaxOps+1)} {
				what := fmt.Sprintf("%d in at %d of %d", len(s), at, gone)
				want := api.OK
				if len(s) > api.MaxOps {
					want = api.ErrFull
				}
				if at < 0 || at > 5 || gone < 0 || gone > 5-at {
					want = api.ErrRange
				}
				if want != api.OK {
					wantTold(t, what, Splice(d, list, at, gone, s), want)
					continue
				}
				o := busy(t)
				wantTold(t, what, Splice(o, list, at, gone, s), want)
				wantRunes(t, what, o, list, "axbcy"[:at]+s+"axbcy"[at+gone:])
			}
		}
	}
	wantNothingDone(t, "no such place", d, busy(t))
}

// W1: great numbers with nothing pending, where no sum of them comes round to one that may be.
func TestSpliceGreatNumbers(t *testing.T) {
	d := texted(t, "abc")
	for _, at := range []int{0, 1, 2, 3, 4, math.MaxInt - 1, math.MaxInt, math.MinInt} {
		for _, gone := range []int{math.MaxInt, math.MaxInt - 1, math.MaxInt - 2, math.MaxInt - 3, math.MinInt, math.MinInt + 1, math.MinInt + 3} {
			for _, s := range []string{"", "z", "zzzz"} {
				wantTold(t, fmt.Sprintf("%q at %d of %d", s, at, gone), Splice(d, list, at, gone, s), api.ErrRange)
			}
		}
	}
	wantRunes(t, "great numbers", d, list, "abc")
}

// W1: of an empty list there is the place 0 alone, and nothing can go.
func TestSpliceRangeOfEmpty(t *testing.T) {
	for _, at := range []int{-1, 0, 1} {
		for _, gone := range []int{-1, 0, 1} {
			d := listed(t)
			want := api.ErrRange
			if at == 0 && gone == 0 {
				want = api.OK
			}
			wantTold(t, fmt.Sprintf("at %d of %d", at, gone), Splice(d, list, at, gone, "a"), want)
		}
	}
}

// W1: with too much nothing is done, however much is pending.
func TestSpliceFull(t *testing.T) {
	d := busy(t)
	for _, s := range []string{strings.Repeat("a", 36), strings.Repeat("\u00e9", 36), strings.Repeat("\U0001f600", 100), strings.Repeat("a", 100_000)} {
		wantTold(t, fmt.Sprintf("%.20q", s), Splice(d, list, 0, 0, s), api.ErrFull)
	}
	wantTold(t, "some gone", Splice(d, list, 1, 4, strings.Repeat("a", 32)), api.ErrFull)
	wantNothingDone(t, "too much", d, busy(t))

	d = busy(t)
	wantTold(t, "just as much as may be", Splice(d, list, 1, 4, strings.Repeat("a", 31)), api.OK)
	wantTold(t, "nothing more", Splice(d, list, 1, 0, ""), api.OK)
	wantTold(t, "one more", Splice(d, list, 1, 0, "a"), api.ErrFull)
	wantTold(t, "one less", Splice(d, list, 1, 1, ""), api.ErrFull)
}

// crowded is a hand with four elements, 2@1 to 5@1; of the one at an index so many values were said at the same time.
func crowded(t testing.TB, at, many int) *doc.Doc {
	t.Helper()
	d := texted(t, "abcd")
	var l []api.Change
	for actor := 2; actor < many+2; actor++ {
		op := api.Op{Kind: api.Put, Obj: list, Elem: oid(2+at, 1), Value: text("x"), Preds: []api.Id{oid(2+at, 1)}}
		l = append(l, api.Change{Actor: actor, Seq: 1, Start: 6, Deps: []api.Ref{{Actor: 1, Seq: 1}}, Ops: []api.Op{op}})
	}
	for _, c := range l {
		must(t, d.Take(c))
	}
	must(t, d.Put(root, "k", number(1)))
	must(t, d.Insert(list, 0, text("y")))
	return d
}

// W1: ErrFull that Remove says of one of several elements: those ahead of it are not gone either, and what was pending is.
func TestSpliceCrowded(t *testing.T) {
	for at := range 4 {
		d := crowded(t, at, api.MaxDeps)
		wantTold(t, "as many values as may be", Splice(d, list, 1, 4, "z"), api.OK)
		wantRunes(t, "as many values as may be", d, list, "yz")

		d = crowded(t, at, api.MaxDeps+1)
		wantTold(t, "one value more", Splice(d, list, 1, 4, "z"), api.ErrFull)
		wantTold(t, "one value more, alone", Splice(d, list, 1+at, 1, ""), api.ErrFull)
		wantTold(t, "one value more, the last one", Splice(d, list, 0, 2+at, "z"), api.ErrFull)
		wantTold(t, "that is left", Splice(d, list, 0, 1+at, ""), api.OK)
		wantRead(t, "that is left", d, list, "x"+"abcd"[1+at:])
		d.Rollback()
		d = crowded(t, at, api.MaxDeps+1)
		Splice(d, list, 1, 4, "z")
		Splice(d, list, 0, 2+at, "zzz")
		wantNothingDone(t, "one value more", d, crowded(t, at, api.MaxDeps+1))
	}
}

// late is a hand with a list 1@1 of abc, and so many numbers of ops left, two more being pending.
func late(t testing.TB, left int) *doc.Doc {
	t.Helper()
	d := texted(t, "abc")
	op := api.Op{Kind: api.Put, Key: "k", Value: number(1)}
	must(t, d.Take(api.Change{Actor: 2, Seq: 1, Start: api.MaxNum - left - 2, Deps: []api.Ref{{Actor: 1, Seq: 1}}, Ops: []api.Op{op}}))
	must(t, d.Put(root, "a", number(1)))
	must(t, d.Put(root, "b", number(1)))
	return d
}

// W1: ErrFull that Remove and Insert say of numbers above MaxNum: nothing is done, wherever they end.
func TestSpliceLastNumbers(t *testing.T) {
	for left := range 7 {
		for gone := range 4 {
			for in := range 5 {
				what := fmt.Sprintf("%d left, %d gone, %d in", left, gone, in)
				d := late(t, left)
				err := Splice(d, list, 0, gone, "wxyz"[:in])
				if gone+in > left {
					wantTold(t, what, err, api.ErrFull)
					wantNothingDone(t, what, d, late(t, left))
					continue
				}
				wantTold(t, what, err, api.OK)
				wantRunes(t, what, d, list, "wxyz"[:in]+"abc"[gone:])
				commit(t, d)
			}
		}
	}
}

// W1: ErrFull that Remove and Insert say of a book with MaxChanges; nothing gone and nothing in adds nothing.
func TestSpliceMaxChanges(t *testing.T) {
	d := texted(t, "abc")
	for range api.MaxChanges - 2 {
		must(t, d.Put(root, "k", number(1)))
		commit(t, d)
	}
	splice1(t, d, list, 1, 1, "xyz")
	commit(t, d)
	for gone := range 6 {
		for _, s := range []string{"", "z", "zz"} {
			want := api.ErrFull
			if gone == 0 && s == "" {
				want = api.OK
			}
			wantTold(t, fmt.Sprintf("%d gone for %q", gone, s), Splice(d, list, 0, gone, s), want)
		}
	}
	wantTold(t, "another thing is wrong", Splice(d, list, 0, 6, "z"), api.ErrRange)
	if d.Pending() != 0 {
		t.Errorf("%d pending", d.Pending())
	}
	wantRunes(t, "full", d, list, "axyzc")
}

// W1: a text of as many elements as a book can have.
func TestLongText(t *testing.T) {
	d := hand(t, 1)
	made(t)(d.Make(root, "l", api.List))
	commit(t, d)
	var want strings.Builder
	for i := range 30 {
		s := strings.Repeat(string(rune(0x20a0+i)), api.MaxOps)
		splice1(t, d, list, i*api.MaxOps, 0, s)
		want.WriteString(s)
		commit(t, d)
	}
	wantRead(t, "long", d, list, want.String())
	runes := []rune(want.String())
	splice1(t, d, list, 1160, 40, "")
	splice1(t, d, list, 0, 0, "")
	wantRead(t, "less at the end", d, list, string(runes[:1160]))
}
