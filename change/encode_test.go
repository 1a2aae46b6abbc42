package change

import (
	"math"
	"reflect"
	"slices"
	"strings"
	"testing"

	"commonbook/api"
	"commonbook/bytes"
	"commonbook/plain"
)

// written are changes, and how Encode writes them.
var written = []struct {
	c api.Change
	b string
}{
	{api.Change{Actor: 1, Seq: 1, Start: 1}, "\x01\x01\x01\x00\x00"},
	{api.Change{Actor: 99, Seq: api.MaxNum, Start: api.MaxNum}, "\x63\xc0\x84\x3d\xc0\x84\x3d\x00\x00"},
	{
		api.Change{Actor: 2, Seq: 300, Start: 128, Deps: []api.Ref{{Actor: 1, Seq: 4}, {Actor: 99, Seq: 200}}},
		"\x02\xac\x02\x80\x01\x02\x01\x04\x63\xc8\x01\x00",
	},
	{
		with(api.Op{Kind: api.Put, Key: "ab", Value: text("x\n")}),
		"\x01\x01\x01\x00\x01" + "\x01\x00\x00\x02ab\x00\x00\x00" + "\x03\x00\x02x\n" + "\x00",
	},
	{
		with(api.Op{Kind: api.Make, Obj: last, Elem: api.Id{Num: 130, Actor: 3}, Insert: true, Value: object(api.List)}),
		"\x01\x01\x01\x00\x01" + "\x02\xc0\x84\x3d\x63\x00\x82\x01\x03\x01" + "\x06\x00\x00" + "\x00",
	},
	{
		with(api.Op{Kind: api.Inc, Key: "n", Value: number(-150), Preds: []api.Id{one, last}},
			api.Op{Kind: api.Del, Obj: one, Elem: two, Preds: []api.Id{two}}),
		"\x01\x01\x01\x00\x02" +
			"\x04\x00\x00\x01n\x00\x00\x00" + "\x02\xab\x02\x00" + "\x02\x01\x01\xc0\x84\x3d\x63" +
			"\x03\x01\x01\x00\x02\x01\x00" + "\x00\x00\x00" + "\x01\x02\x01",
	},
	{
		with(api.Op{Kind: api.Put, Key: "m", Value: number(math.MinInt)}),
		"\x01\x01\x01\x00\x01" + "\x01\x00\x00\x01m\x00\x00\x00" + "\x02" + strings.Repeat("\xff", 9) + "\x01\x00" + "\x00",
	},
	{
		with(api.Op{Kind: api.Put, Elem: one, Value: api.Value{Kind: api.Truth, Num: 1}}),
		"\x01\x01\x01\x00\x01" + "\x01\x00\x00\x00\x01\x01\x00" + "\x01\x02\x00" + "\x00",
	},
}

// same tells whether changes are alike, an empty list and nil being the same.
func same(a, b api.Change) bool { return reflect.DeepEqual(tidy(a), tidy(b)) }

func tidy(c api.Change) api.Change {
	c.Deps = append([]api.Ref{}, c.Deps...)
	c.Ops = append([]api.Op{}, c.Ops...)
	for i := range c.Ops {
		c.Ops[i].Preds = append([]api.Id{}, c.Ops[i].Preds...)
	}
	return c
}

// checkDecoded asks that bytes begin with a change of so many bytes.
func checkDecoded(t *testing.T, b []byte, want api.Change, size int) {
	t.Helper()
	if c, n, err := Decode(b); !same(c, want) || n != size || err != nil {
		t.Errorf("Decode(%v) = %v, %d, %v, want %v, %d", b, c, n, err, want, size)
	}
}

// checkRefused asks for ErrFile, and that nothing is answered beside it.
func checkRefused(t *testing.T, b []byte) {
	t.Helper()
	if c, n, err := Decode(b); !reflect.DeepEqual(c, api.Change{}) || n != 0 || plain.Told(err) != api.ErrFile {
		t.Errorf("Decode(%v) = %v, %d, %v, want ErrFile", b, c, n, err)
	}
}

// C3
func TestEncodeAndDecode(t *testing.T) {
	for _, w := range written {
		b, err := Encode(w.c)
		if string(b) != w.b || err != nil {
			t.Errorf("Encode(%v) = %v, %v, want %v", w.c, b, err, []byte(w.b))
		}
		checkDecoded(t, []byte(w.b), w.c, len(w.b))
	}
}

// C3: what Encode writes of all that Check takes is read again, whatever stands behind; and none of it that is cut off.
func TestDecodeUndoesEncode(t *testing.T) {
	for _, c := range right {
		b, err := Encode(c)
		if err != nil {
			t.Fatalf("Encode(%v): %v", c, err)
		}
		if want := write(c, bytes.Put); !slices.Equal(b, want) {
			t.Errorf("Encode(%v) = %v, want %v", c, b, want)
		}
		for _, tail := range []string{"", "\x00", "\xff", "\x80\x00", "\x01\x01\x01\x00\x00", string(b)} {
			checkDecoded(t, append(slices.Clone(b), tail...), c, len(b))
		}
		for cut := range b {
			checkRefused(t, b[:cut])
			checkRefused(t, b[:cut:cut])
		}
	}
}

// write is how the chapter says that a change is written, of changes that Check does not take, too; put writes the numbers.
func write(c api.Change, put func(n uint64) []byte) (b []byte) {
	nums := func(l ...int) {
		for _, n := range l {
			b = append(b, put(uint64(n))...)
		}
	}
	chars := func(s string) {
		nums(len(s))
		b = append(b, s...)
	}
	nums(c.Actor, c.Seq, c.Start, len(c.Deps))
	for _, r := range c.Deps {
		nums(r.Actor, r.Seq)
	}
	nums(len(c.Ops))
	for _, op := range c.Ops {
		nums(op.Kind, op.Obj.Num, op.Obj.Actor)
		chars(op.Key)
		insert := 0
		if op.Insert {
			insert = 1
		}
		// twice the number, or its counterpart below 0
		nums(op.Elem.Num, op.Elem.Actor, insert, op.Value.Kind, op.Value.Num<<1^op.Value.Num>>63)
		chars(op.Value.Text)
		nums(len(op.Preds))
		for _, a := range op.Preds {
			nums(a.Num, a.Actor)
		}
	}
	return b
}

// wrong are changes that Check does not take, with what it tells; all that is wrong with them is written.
var wrong = []struct {
	c    api.Change
	want api.Errno
}{
	{api.Change{}, api.ErrRange},
	{api.Change{Actor: 0, Seq: 1, Start: 1}, api.ErrRange},
	{api.Change{Actor: 100, Seq: 1, Start: 1}, api.ErrRange},
	{api.Change{Actor: -1, Seq: 1, Start: 1}, api.ErrRange},
	{api.Change{Actor: math.MinInt + 1, Seq: 1, Start: 1}, api.ErrRange},
	{api.Change{Actor: 1, Seq: 0, Start: 1}, api.ErrRange},
	{api.Change{Actor: 1, Seq: api.MaxNum + 1, Start: 1}, api.ErrRange},
	{api.Change{Actor: 1, Seq: 1<<32 + 1, Start: 1}, api.ErrRange},
	{api.Change{Actor: 1, Seq: 1, Start: 0}, api.ErrRange},
	{api.Change{Actor: 1, Seq: 1, Start: api.MaxNum + 1}, api.ErrRange},
	{api.Change{Actor: 1, Seq: 1, Start: math.MaxInt}, api.ErrRange},
	{api.Change{Actor: 1, Seq: 1, Start: api.MaxNum, Ops: puts(2)}, api.ErrRange},
	{api.Change{Actor: 1, Seq: 1, Start: 1, Deps: deps(13)}, api.ErrFull},
	{api.Change{Actor: 1, Seq: 1, Start: 1, Deps: []api.Ref{{Actor: 1, Seq: 0}}}, api.ErrRange},
	{api.Change{Actor: 1, Seq: 1, Start: 1, Deps: []api.Ref{{Actor: 1, Seq: 1}, {Actor: 1, Seq: 2}}}, api.ErrOrder},
	{with(puts(41)...), api.ErrFull},
	{with(api.Op{}), api.ErrRange},
	{with(api.Op{Kind: 5, Key: "a"}), api.ErrRange},
	{with(api.Op{Kind: -1, Key: "a"}), api.ErrRange},
	{with(api.Op{Kind: api.Put, Obj: noIds[0], Key: "a"}), api.ErrRange},
	{with(api.Op{Kind: api.Put, Elem: noIds[1]}), api.ErrRange},
	{with(api.Op{Kind: api.Put, Elem: noIds[6]}), api.ErrRange},
	{with(api.Op{Kind: api.Put, Key: key(21)}), api.ErrFull},
	{with(api.Op{Kind: api.Put, Key: key(300)}), api.ErrFull},
	{with(api.Op{Kind: api.Put, Key: "a", Preds: []api.Id{root}}), api.ErrRange},
	{with(api.Op{Kind: api.Put, Key: "a", Preds: ids(13)}), api.ErrFull},
	{with(api.Op{Kind: api.Put, Key: "a", Preds: []api.Id{two, one}}), api.ErrOrder},
	{with(api.Op{Kind: api.Put, Key: "a", Preds: []api.Id{one, one}}), api.ErrOrder},
	{with(api.Op{Kind: api.Put}), api.ErrShape},
	{with(api.Op{Kind: api.Put, Key: "a", Elem: one}), api.ErrShape},
	{with(api.Op{Kind: api.Put, Key: "a", Insert: true}), api.ErrShape},
	{with(api.Op{Kind: api.Put, Insert: true, Preds: ids(1)}), api.ErrShape},
	{with(api.Op{Kind: api.Del, Insert: true}), api.ErrShape},
	{with(api.Op{Kind: api.Put, Key: "a", Value: object(api.Map)}), api.ErrRange},
	{with(api.Op{Kind: api.Put, Key: "a", Value: api.Value{Kind: 7}}), api.ErrRange},
	{with(api.Op{Kind: api.Put, Key: "a", Value: api.Value{Kind: api.Nil, Num: 1}}), api.ErrRange},
	{with(api.Op{Kind: api.Put, Key: "a", Value: api.Value{Kind: api.Truth, Num: -1}}), api.ErrRange},
	{with(api.Op{Kind: api.Put, Key: "a", Value: api.Value{Kind: api.Number, Text: "x"}}), api.ErrRange},
	{with(api.Op{Kind: api.Put, Key: "a", Value: text(strings.Repeat("t", 61))}), api.ErrRange},
	{with(api.Op{Kind: api.Make, Key: "a"}), api.ErrRange},
	{with(api.Op{Kind: api.Make, Key: "a", Value: api.Value{Kind: api.Map, Num: 1}}), api.ErrRange},
	{with(api.Op{Kind: api.Del, Key: "a", Value: number(0), Preds: ids(1)}), api.ErrRange},
	{with(api.Op{Kind: api.Inc, Key: "a", Value: null(), Preds: ids(1)}), api.ErrRange},
	{with(api.Op{Kind: api.Del, Key: "a"}), api.ErrShape},
	{with(api.Op{Kind: api.Inc, Key: "a", Value: number(1)}), api.ErrShape},
	{with(append(puts(39), api.Op{Kind: api.Put})...), api.ErrShape},
}

// C3: Encode tells what Check does; Decode takes no bytes of such a change.
func TestWrongChanges(t *testing.T) {
	refuse := func(c api.Change, want api.Errno) {
		checkTold(t, c, want)
		if b, err := Encode(c); len(b) != 0 || plain.Told(err) != want {
			t.Errorf("Encode(%v) = %v, %v, want %v", c, b, err, want)
		}
	}
	for _, w := range wrong {
		refuse(w.c, w.want)
		checkRefused(t, write(w.c, bytes.Put))
		checkRefused(t, append(write(w.c, bytes.Put), make([]byte, 100)...))
	}
	// of an object that is one already nothing is written
	refuse(with(api.Op{Kind: api.Make, Key: "a", Value: api.Value{Kind: api.Map, Obj: one}}), api.ErrRange)
}

// C3: no number may have a byte more than it needs.
func TestDecodeRefusesNeedlessBytes(t *testing.T) {
	longer := func(n uint64) []byte {
		b := bytes.Put(n)
		b[len(b)-1] |= 128
		return append(b, 0)
	}
	for _, c := range right {
		checkEachRefused(t, c, longer)
	}
}

// checkEachRefused writes each number of a change in turn in another way, and the rest as they are.
func checkEachRefused(t *testing.T, c api.Change, other func(n uint64) []byte) {
	t.Helper()
	many := 0
	write(c, func(n uint64) []byte {
		many++
		return nil
	})
	for chosen := range many {
		at := 0
		b := write(c, func(n uint64) []byte {
			at++
			if at-1 == chosen {
				return other(n)
			}
			return bytes.Put(n)
		})
		checkRefused(t, b)
	}
}

// C3: a number is not taken for another one with which it shares its low bits.
func TestDecodeRefusesGreatNumbers(t *testing.T) {
	// A Number and a Count may have every number, so none is here.
	c := api.Change{Actor: 1, Seq: 2, Start: 3, Deps: deps(2), Ops: []api.Op{
		{Kind: api.Put, Key: "ab", Value: text("xyz"), Preds: ids(2)},
		{Kind: api.Make, Obj: one, Elem: two, Insert: true, Value: object(api.List)},
		{Kind: api.Del, Obj: one, Elem: two, Preds: ids(1)},
	}}
	for _, more := range []uint64{1 << 31, 1 << 32, 1 << 62, 1 << 63} {
		checkEachRefused(t, c, func(n uint64) []byte { return bytes.Put(n + more) })
	}
	checkEachRefused(t, c, func(uint64) []byte { return bytes.Put(math.MaxUint64) })
	// more than 64 bits
	checkEachRefused(t, c, func(uint64) []byte { return slices.Concat(slices.Repeat([]byte{255}, 9), []byte{2}) })
}

// C3: how many there are, and how long a text is, at the edges and above them.
func TestDecodeCounts(t *testing.T) {
	full := api.Change{Actor: 1, Seq: 1, Start: 1, Deps: deps(12), Ops: append(puts(39),
		api.Op{Kind: api.Put, Key: key(20), Value: text(strings.Repeat("t", 60)), Preds: ids(12)})}
	b, err := Encode(full)
	if err != nil {
		t.Fatal(err)
	}
	checkDecoded(t, b, full, len(b))
	for _, head := range []string{
		"\x01\x01\x01",                                                  // Deps
		"\x01\x01\x01\x00",                                              // Ops
		"\x01\x01\x01\x00\x01\x01\x00\x00",                              // Key
		"\x01\x01\x01\x00\x01\x01\x00\x00\x01a\x00\x00",                 // Insert
		"\x01\x01\x01\x00\x01\x01\x00\x00\x01a\x00\x00\x00\x03\x00",     // Text
		"\x01\x01\x01\x00\x01\x01\x00\x00\x01a\x00\x00\x00\x00\x00\x00", // Preds
	} {
		for _, n := range []uint64{61, 1000, 1 << 32, 1<<63 - 1, 1 << 63, math.MaxUint64} {
			start := append([]byte(head), bytes.Put(n)...)
			checkRefused(t, start)
			checkRefused(t, append(start, slices.Repeat([]byte{1}, 3000)...))
		}
	}
}

// C3: 1 or 0 for Insert, and nothing else.
func TestDecodeInsert(t *testing.T) {
	at := func(n uint64) []byte {
		return slices.Concat([]byte("\x01\x01\x01\x00\x01\x01\x00\x00\x00\x01\x01"), bytes.Put(n), []byte("\x00\x00\x00\x00"))
	}
	checkDecoded(t, at(0), with(api.Op{Kind: api.Put, Elem: one}), len(at(0)))
	checkDecoded(t, at(1), with(api.Op{Kind: api.Put, Elem: one, Insert: true}), len(at(1)))
	for _, n := range []uint64{2, 3, 127, 128, 257, 1<<63 + 1, math.MaxUint64} {
		checkRefused(t, at(n))
	}
}

// C3: what Decode takes is just what Encode writes, whichever byte is another one.
func TestDecodeTakesOnlyWhatEncodeWrites(t *testing.T) {
	taken, refused := 0, 0
	for _, w := range written {
		for at := range len(w.b) {
			for other := range 256 {
				b := []byte(w.b)
				b[at] = byte(other)
				c, n, err := Decode(b)
				if err != nil {
					checkRefused(t, b)
					refused++
					continue
				}
				back, err := Encode(c)
				if err != nil || !slices.Equal(back, b[:n]) {
					t.Errorf("Decode(%v) = %v, %d, but Encode writes %v, %v", b, c, n, back, err)
				}
				taken++
			}
		}
	}
	if taken == 0 || refused == 0 {
		t.Errorf("%d taken, %d refused", taken, refused)
	}
}

// P2, P4: nothing handed in is written into, nor read behind its length.
func TestEncodeAndDecodeLeaveArguments(t *testing.T) {
	refs, nums, some := deps(3), ids(3), puts(3)
	for i := range some {
		some[i].Preds = nums[:1]
	}
	c := api.Change{Actor: 1, Seq: 1, Start: 1, Deps: refs[:2], Ops: some[:2]}
	b, err := Encode(c)
	if err != nil {
		t.Fatal(err)
	}
	kept := append(slices.Clone(b), 1, 2, 3)
	whole := slices.Clone(kept)
	if back, n, err := Decode(whole[:len(b)]); !same(back, c) || n != len(b) || err != nil {
		t.Errorf("Decode = %v, %d, %v", back, n, err)
	}
	if !slices.Equal(whole, kept) || !slices.Equal(refs, deps(3)) || !slices.Equal(nums, ids(3)) {
		t.Error("what was handed in was written into")
	}
	for i, op := range puts(3) {
		op.Preds = ids(1)
		if !reflect.DeepEqual(some[i], op) {
			t.Errorf("op %d was written into: %v", i, some[i])
		}
	}
}

// P2: what comes out is the caller's, and no two lists of it share memory.
func TestDecodedListsAreFresh(t *testing.T) {
	c := api.Change{Actor: 1, Seq: 1, Start: 1, Deps: deps(3), Ops: puts(5)}
	for i := range c.Ops {
		c.Ops[i].Preds = ids(3)
	}
	b, err := Encode(c)
	if err != nil {
		t.Fatal(err)
	}
	first, _, _ := Decode(b)
	for i := range first.Ops {
		for k := i + 1; k < len(first.Ops); k++ {
			l := first.Ops[i].Preds
			for at := range l[:cap(l)] {
				l[:cap(l)][at] = last
			}
			if !slices.Equal(first.Ops[k].Preds, ids(3)) {
				t.Fatalf("Preds of ops %d and %d share memory", i, k)
			}
		}
	}
	for i := range first.Deps {
		first.Deps[i] = api.Ref{}
	}
	checkDecoded(t, b, c, len(b))
	for i := range b {
		b[i] = 'z'
	}
	second, _, _ := Decode(write(c, bytes.Put))
	if !same(second, c) || first.Ops[0].Key != "a" {
		t.Error("an answer shares memory with the bytes")
	}
}
