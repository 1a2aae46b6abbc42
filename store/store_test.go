package store

import (
	"fmt"
	"math"
	"slices"
	"strconv"
	"strings"
	"testing"

	"commonbook/api"
	"commonbook/change"
	"commonbook/dag"
	"commonbook/disk"
	"commonbook/plain"
)

// refs of numbers: an actor, a Seq, and so on.
func refs(n ...int) (l []api.Ref) {
	for i := 0; i < len(n); i += 2 {
		l = append(l, api.Ref{Actor: n[i], Seq: n[i+1]})
	}
	return l
}

// one change, with an op that leans on nothing.
func one(actor, seq, start int, deps ...int) api.Change {
	op := api.Op{Kind: api.Put, Key: "k", Value: api.Value{Kind: api.Number, Num: actor}}
	return api.Change{Actor: actor, Seq: seq, Start: start, Deps: refs(deps...), Ops: []api.Op{op}}
}

// family: 2:1 and 3:1 hang on 1:1, 1:2 on both. It stands in the order of All.
func family() []api.Change {
	return []api.Change{
		one(1, 1, 1),
		one(2, 1, 2, 1, 1),
		one(3, 1, 2, 1, 1),
		one(1, 2, 3, 2, 1, 3, 1),
	}
}

// listed has a list, things in it, one of which is over, and a count that is added to.
func listed() []api.Change {
	list, first, count := api.Id{Num: 1, Actor: 4}, api.Id{Num: 2, Actor: 4}, api.Id{Num: 3, Actor: 4}
	return []api.Change{
		{Actor: 4, Seq: 1, Start: 1, Ops: []api.Op{
			{Kind: api.Make, Key: "list", Value: api.Value{Kind: api.List}},
			{Kind: api.Put, Obj: list, Insert: true, Value: api.Value{Kind: api.Text, Text: "a\x00\xff"}},
			{Kind: api.Put, Key: "count", Value: api.Value{Kind: api.Count, Num: math.MinInt}},
		}},
		{Actor: 5, Seq: 1, Start: 4, Deps: refs(4, 1), Ops: []api.Op{
			{Kind: api.Put, Obj: list, Elem: first, Insert: true, Value: api.Value{Kind: api.Truth, Num: 1}},
			{Kind: api.Del, Obj: list, Elem: first, Preds: []api.Id{first}},
			{Kind: api.Inc, Key: "count", Value: api.Value{Kind: api.Number, Num: -1}, Preds: []api.Id{count}},
		}},
		{Actor: 6, Seq: 1, Start: api.MaxNum, Deps: refs(5, 1)},
	}
}

// chain of one actor, each change hanging on the one ahead.
func chain(actor, many int) (l []api.Change) {
	for i := range many {
		c := one(actor, i+1, i+1)
		if i > 0 {
			c.Deps = refs(actor, i)
		}
		l = append(l, c)
	}
	return l
}

// unlike is another change with the Actor and Seq of c.
func unlike(c api.Change) api.Change {
	c.Ops = append(slices.Clone(c.Ops), c.Ops[0])
	return c
}

// sized are changes that hang together and have just so many bytes in all.
func sized(t *testing.T, size int) []api.Change {
	t.Helper()
	l := chain(1, 1+size/2800)
	for i := range l {
		l[i].Start = 1 + i*api.MaxOps
		l[i].Ops = nil
		for range api.MaxOps {
			v := api.Value{Kind: api.Text, Text: strings.Repeat("t", api.MaxText)}
			l[i].Ops = append(l[i].Ops, api.Op{Kind: api.Put, Key: "k", Value: v})
		}
	}
	much := bytesOf(l) - size
	for i := range l {
		for k := range l[i].Ops {
			text := &l[i].Ops[k].Value.Text
			less := min(much, len(*text))
			*text = (*text)[less:]
			much -= less
		}
	}
	if got := bytesOf(l); got != size {
		t.Fatalf("made changes of %d bytes, not of %d", got, size)
	}
	return l
}

// bytesOf tells how many changes have as chapter 4 writes them.
func bytesOf(l []api.Change) (n int) {
	for _, c := range l {
		b, _ := change.Encode(c)
		n += len(b)
	}
	return n
}

// inOrder gives changes in the order of All, each once.
func inOrder(l ...api.Change) []api.Change {
	b := dag.New()
	for _, c := range l {
		b.Take(c)
	}
	return b.All()
}

// names of changes, for telling of them.
func names(l []api.Change) string {
	var s []string
	for _, c := range l {
		s = append(s, fmt.Sprint(c.Actor, ":", c.Seq, "/", len(c.Ops)))
	}
	return "[" + strings.Join(s, " ") + "]"
}

// same tells whether changes are alike and in one order, an empty list being nil.
func same(a, b []api.Change) bool {
	return plainly(a) == plainly(b)
}

func plainly(l []api.Change) string {
	var s []string
	for _, c := range l {
		b, err := change.Encode(c)
		if err != nil {
			b = []byte(err.Error())
		}
		s = append(s, strconv.Itoa(len(b)), string(b))
	}
	return strings.Join(s, " ")
}

// whole is all that can be told of a disk that does not stop: its files, and how many steps were done.
func whole(d *disk.Disk) string {
	var s []string
	for _, name := range d.Names() {
		b, err := d.Read(name)
		s = append(s, fmt.Sprintf("%s=%q %v", name, b, err))
	}
	return fmt.Sprint(s, d.Steps())
}

// room tells how many files and bytes a disk has.
func room(d *disk.Disk) (files, bytes int) {
	for _, name := range d.Names() {
		b, _ := d.Read(name)
		files, bytes = files+1, bytes+len(b)
	}
	return files, bytes
}

func must(t *testing.T, errs ...error) {
	t.Helper()
	for i, err := range errs {
		if err != nil {
			t.Fatalf("call %d: got %v", i, err)
		}
	}
}

func wantTold(t *testing.T, what string, err error, want api.Errno) {
	t.Helper()
	if got := plain.Told(err); got != want {
		t.Errorf("%s: got %v, want %v", what, got, want)
	}
}

// wantBook: a book has just these changes, in this order.
func wantBook(t *testing.T, what string, d *disk.Disk, name string, want []api.Change) {
	t.Helper()
	got, err := Load(d, name)
	if err != nil || !same(got, want) {
		t.Errorf("%s: Load of %q: got %s, %v, want %s", what, name, names(got), err, names(want))
	}
}

func wantNone(t *testing.T, what string, d *disk.Disk, name string) {
	t.Helper()
	got, err := Load(d, name)
	if wantTold(t, what+": Load of "+name, err, api.ErrNone); len(got) != 0 {
		t.Errorf("%s: Load with an error: got %s", what, names(got))
	}
}

func wantNames(t *testing.T, what string, d *disk.Disk, want ...string) {
	t.Helper()
	if got := Names(d); !slices.Equal(got, want) {
		t.Errorf("%s: Names: got %q, want %q", what, got, want)
	}
}

// diskOf has one book.
func diskOf(t *testing.T, name string, l []api.Change) *disk.Disk {
	t.Helper()
	d := disk.New()
	must(t, Save(d, name, l))
	return d
}

// calls are all that take a name and tell an error.
func calls(d *disk.Disk, name string, l []api.Change) map[string]error {
	_, loaded := Load(d, name)
	return map[string]error{"Load": loaded, "Compact": Compact(d, name), "Delete": Delete(d, name), "Save": Save(d, name, l)}
}

func TestEmptyDisk(t *testing.T) {
	d := disk.New()
	wantNames(t, "an empty disk", d)
	was := whole(d)
	wantNone(t, "an empty disk", d, "book")
	wantTold(t, "Compact of none", Compact(d, "book"), api.ErrNone)
	wantTold(t, "Delete of none", Delete(d, "book"), api.ErrNone)
	if got := whole(d); got != was {
		t.Errorf("calls on no book: got %s, want %s", got, was)
	}
}

func TestRightNames(t *testing.T) {
	for _, name := range []string{"a", "z", "ab", "book", "abcdef", "zzzzzz", "draft", "new"} {
		d := disk.New()
		wantTold(t, "Save of "+name, Save(d, name, family()), api.OK)
		wantBook(t, "saved", d, name, family())
		wantNames(t, "saved", d, name)
		wantTold(t, "Compact of "+name, Compact(d, name), api.OK)
		wantBook(t, "compacted", d, name, family())
		wantTold(t, "Delete of "+name, Delete(d, name), api.OK)
		wantNone(t, "deleted", d, name)
		wantNames(t, "deleted", d)
	}
}

func TestWrongNames(t *testing.T) {
	for _, name := range []string{
		"", "abcdefg", "toolong", "A", "Z", "bOok", "a1", "0", "a.b", ".", "draft.", "a b", " ", "a\x00", "`", "{", "a{", "`a",
		"\xc3\xa9", "a\xff", "a/b", "-", strings.Repeat("a", 12), strings.Repeat("a", 13), strings.Repeat("a", 70_000),
	} {
		d := diskOf(t, "book", family())
		was := whole(d)
		for what, err := range calls(d, name, listed()) {
			wantTold(t, fmt.Sprintf("%s of the name %.20q", what, name), err, api.ErrSyntax)
		}
		if l, _ := Load(d, name); len(l) != 0 {
			t.Errorf("Load of the name %.20q: got %s", name, names(l))
		}
		if got := whole(d); got != was {
			t.Errorf("calls with the name %.20q: got %s, want %s", name, got, was)
		}
	}
}

func TestSaveNone(t *testing.T) {
	for _, none := range [][]api.Change{nil, {}} {
		d := diskOf(t, "book", none)
		wantBook(t, "no changes", d, "book", nil)
		wantNames(t, "no changes", d, "book")
		must(t, Compact(d, "book"), Save(d, "book", none))
		wantBook(t, "no changes, compacted", d, "book", nil)
		d.Crash(0)
		wantBook(t, "no changes, crashed", d, "book", nil)
		must(t, Save(d, "book", family()), Save(d, "book", none))
		wantBook(t, "no changes more", d, "book", family())
		must(t, Delete(d, "book"))
		wantNames(t, "deleted", d)
	}
}

// TestSaveWhole: all that a change has is kept.
func TestSaveWhole(t *testing.T) {
	l := listed()
	d := diskOf(t, "book", l)
	wantBook(t, "saved", d, "book", l)
	d.Crash(0)
	wantBook(t, "crashed", d, "book", l)
	must(t, Compact(d, "book"))
	wantBook(t, "compacted", d, "book", l)
}

// TestSaveOrders: what is kept does not hang on the order of l, nor on how it was shared out.
func TestSaveOrders(t *testing.T) {
	all := append(family(), listed()...)
	sorted := inOrder(all...)
	f, l := family(), listed()
	for i, shares := range [][][]api.Change{
		{all},
		{append(listed(), family()...)},
		{{f[0], f[2], l[0], f[1], l[1], f[3], l[2]}},
		{{l[0], f[0], f[2]}, {f[0], f[2], f[1], f[3]}, l},
		{l, f},
		{f, l},
		{l, f, f, l},
		{l, nil, f, nil},
		{f[:1], f[:2], f[:3], f, l[:1], l[:2], l},
		{{f[0], f[2]}, {f[0], f[1]}, {f[0], f[2], f[1], f[3]}, l},
		{all, f, l, all},
	} {
		d := disk.New()
		var given []api.Change
		for _, s := range shares {
			must(t, Save(d, "book", s))
			given = append(given, s...)
			wantBook(t, fmt.Sprint("shares ", i), d, "book", inOrder(given...))
		}
		wantBook(t, fmt.Sprint("shares ", i, ", all"), d, "book", sorted)
		d.Crash(0)
		wantBook(t, fmt.Sprint("shares ", i, ", crashed"), d, "book", sorted)
		must(t, Compact(d, "book"))
		wantBook(t, fmt.Sprint("shares ", i, ", compacted"), d, "book", sorted)
		if files, bytes := room(d); files != 1 || bytes != bytesOf(all) {
			t.Errorf("shares %d, compacted: %d files of %d bytes, want 1 of %d", i, files, bytes, bytesOf(all))
		}
	}
}

// wantRefused: Save answers an error, and nothing is changed.
func wantRefused(t *testing.T, what string, d *disk.Disk, name string, l []api.Change, want api.Errno) {
	t.Helper()
	was := whole(d)
	wantTold(t, "Save, "+what, Save(d, name, l), want)
	if got := whole(d); got != was {
		t.Errorf("Save, %s: the disk is another one: got %.300s, want %.300s", what, got, was)
	}
}

// TestSaveWrong: chapter 7's errors of l alone, whatever is kept.
func TestSaveWrong(t *testing.T) {
	f := family()
	misfit := one(7, 1, 1)
	misfit.Ops[0].Preds = []api.Id{{Num: 1, Actor: 1}}
	for what, c := range map[string]struct {
		l    []api.Change
		want api.Errno
	}{
		"one that is none":                   {[]api.Change{{}}, api.ErrState},
		"one that is none, behind":           {append(family(), api.Change{Actor: 100, Seq: 1, Start: 1}), api.ErrState},
		"a number far above":                 {[]api.Change{{Actor: 1, Seq: math.MaxInt, Start: math.MinInt}}, api.ErrState},
		"too many ops":                       {[]api.Change{{Actor: 1, Seq: 1, Start: 1, Ops: make([]api.Op, 41)}}, api.ErrState},
		"one that does not fit":              {append(family(), misfit), api.ErrState},
		"one that hangs on what is not in l": {[]api.Change{f[1]}, api.ErrState},
		"one left out":                       {[]api.Change{f[0], f[1], f[3]}, api.ErrState},
		"one ahead of what it hangs on":      {[]api.Change{f[1], f[0]}, api.ErrState},
		"Seq 2 without Seq 1":                {[]api.Change{one(7, 2, 1)}, api.ErrState},
		"one twice":                          {[]api.Change{f[0], f[1], f[0]}, api.ErrClash},
		"two unlike ones":                    {[]api.Change{f[0], unlike(f[0])}, api.ErrClash},
		"a clash, then one that is none":     {[]api.Change{f[0], f[0], {}}, api.ErrClash},
		"one that is none, then a clash":     {[]api.Change{f[0], {}, f[0]}, api.ErrState},
		"one that waits, then a clash":       {[]api.Change{f[0], f[3], f[0]}, api.ErrState},
		"more than a book may have":          {chain(1, api.MaxChanges+1), api.ErrState},
		"more, then a clash":                 {append(chain(1, api.MaxChanges+1), one(1, 1, 1)), api.ErrState},
		"all, then a clash":                  {append(chain(1, api.MaxChanges), one(1, 1, 1)), api.ErrClash},
	} {
		d := disk.New()
		wantRefused(t, what+", no book", d, "book", c.l, c.want)
		wantNone(t, what, d, "book")
		wantNames(t, what, d)
		for where, keep := range map[string][]api.Change{"an empty book": nil, "kept ones": f[:1], "all that it hangs on": f, "others": listed()} {
			d := diskOf(t, "book", keep)
			wantRefused(t, what+", "+where, d, "book", c.l, c.want)
			wantBook(t, what+", "+where, d, "book", keep)
		}
	}
}

// TestSaveTogether: chapter 7's errors of what is kept and l together.
func TestSaveTogether(t *testing.T) {
	f := family()
	d := diskOf(t, "book", f)
	wantRefused(t, "unlike what is kept", d, "book", []api.Change{unlike(f[0])}, api.ErrClash)
	wantRefused(t, "one kept, one unlike", d, "book", []api.Change{f[0], unlike(f[2])}, api.ErrClash)
	wantRefused(t, "one new, one unlike", d, "book", []api.Change{one(7, 1, 1), f[0], unlike(f[1])}, api.ErrClash)
	wantRefused(t, "unlike by Start", d, "book", []api.Change{one(1, 1, 2)}, api.ErrClash)
	wantRefused(t, "unlike by Deps", d, "book", []api.Change{f[0], one(2, 1, 2)}, api.ErrClash)
	wantBook(t, "refused", d, "book", f)
	must(t, Save(d, "other", []api.Change{unlike(f[0])}))
	wantBook(t, "another book", d, "other", []api.Change{unlike(f[0])})
	wantBook(t, "this book", d, "book", f)

	d = diskOf(t, "book", chain(1, 100))
	wantRefused(t, "21 more", d, "book", chain(2, 21), api.ErrState)
	wantRefused(t, "21 more, then unlike", d, "book", append(chain(2, 21), one(1, 1, 5)), api.ErrState)
	wantRefused(t, "unlike, then 21 more", d, "book", append([]api.Change{one(1, 1, 5)}, chain(2, 21)...), api.ErrClash)
	wantRefused(t, "20 more, then unlike", d, "book", append(chain(2, 20), one(1, 1, 5)), api.ErrClash)
	must(t, Save(d, "book", chain(2, 20)))
	full := inOrder(append(chain(1, 100), chain(2, 20)...)...)
	wantBook(t, "a full book", d, "book", full)
	wantRefused(t, "a full book, one more", d, "book", chain(3, 1), api.ErrState)
	must(t, Save(d, "book", chain(1, 7)), Save(d, "book", full))
	wantBook(t, "a full book, saved again", d, "book", full)
}

// TestSaveFirstError: which of several errors is told.
func TestSaveFirstError(t *testing.T) {
	f := family()
	much := sized(t, api.MaxBytes+1)
	d := diskOf(t, "book", f)
	wantRefused(t, "a name and l", d, "BOOK", []api.Change{{}}, api.ErrSyntax)
	wantRefused(t, "l, behind what clashes with what is kept", d, "book", []api.Change{unlike(f[0]), {}}, api.ErrState)
	wantRefused(t, "l twice, behind what clashes with what is kept", d, "book", []api.Change{one(7, 1, 1), unlike(f[0]), one(7, 1, 1)}, api.ErrClash)
	wantRefused(t, "a clash and too much", d, "book", much, api.ErrClash)
	wantRefused(t, "too much", d, "other", much, api.ErrFull)
	wantRefused(t, "too much and a fault", d, "other", append(much, api.Change{}), api.ErrState)
	d.Stop(0)
	wantRefused(t, "a name, stopped", d, "", nil, api.ErrSyntax)
	wantRefused(t, "a clash, stopped", d, "book", []api.Change{unlike(f[0])}, api.ErrClash)
	wantRefused(t, "l twice, stopped", d, "none", []api.Change{f[0], f[0]}, api.ErrClash)
	wantRefused(t, "too much, stopped", d, "other", much, api.ErrState)
	wantRefused(t, "stopped", d, "book", f, api.ErrState)
	wantRefused(t, "stopped, no changes", d, "book", nil, api.ErrState)
	wantTold(t, "Compact, stopped", Compact(d, "book"), api.ErrState)
	wantTold(t, "Compact of a name, stopped", Compact(d, "toolong"), api.ErrSyntax)
	wantTold(t, "Compact of none, stopped", Compact(d, "none"), api.ErrNone)
	wantTold(t, "Delete, stopped", Delete(d, "book"), api.ErrState)
	wantTold(t, "Delete of a name, stopped", Delete(d, "toolong"), api.ErrSyntax)
	wantTold(t, "Delete of none, stopped", Delete(d, "none"), api.ErrNone)
	wantBook(t, "stopped", d, "book", f)
	wantNone(t, "stopped", d, "none")
	wantNames(t, "stopped", d, "book")

	// What a Save that stopped has left is no matter for one that is refused.
	d.Stop(d.Steps() + 2)
	wantTold(t, "Save, stopped on its way", Save(d, "book", listed()), api.ErrState)
	wantRefused(t, "too much, stopped on the way", d, "other", much, api.ErrState)
	d.Stop(-1)
	wantRefused(t, "too much, not stopped any more", d, "other", much, api.ErrFull)
	wantBook(t, "not stopped any more", d, "book", f)
}

// TestSaveMuch: as much as a file may have, and more.
func TestSaveMuch(t *testing.T) {
	for _, size := range []int{api.MaxBytes - 1, api.MaxBytes} {
		l := sized(t, size)
		d := diskOf(t, "book", l)
		must(t, Save(d, "book", l), Compact(d, "book"))
		wantBook(t, fmt.Sprint(size, " bytes"), d, "book", l)
		if files, bytes := room(d); files != 1 || bytes != size {
			t.Errorf("%d bytes: %d files of %d bytes", size, files, bytes)
		}
		wantRefused(t, "a full file, and more", d, "book", chain(2, 1), api.ErrFull)
		must(t, Save(d, "other", l))
		wantBook(t, "another book as great", d, "other", l)
		must(t, Delete(d, "book"), Save(d, "book", chain(2, 1)))
		wantBook(t, "deleted, and written anew", d, "book", chain(2, 1))
	}
	for _, size := range []int{api.MaxBytes + 1, 2 * api.MaxBytes} {
		l := sized(t, size)
		d := disk.New()
		wantRefused(t, "more than a file may have", d, "book", l, api.ErrFull)
		wantNone(t, "more than a file may have", d, "book")
		must(t, Save(d, "book", l[:3]))
		wantRefused(t, "more than a file may have, and some kept", d, "book", l, api.ErrFull)
		wantBook(t, "refused", d, "book", l[:3])
	}
}

// TestSaveOften: a book that was saved often has no more bytes than one that was saved once.
func TestSaveOften(t *testing.T) {
	l := sized(t, 50_000)
	often := disk.New()
	for i := range l {
		must(t, Save(often, "book", l[:i+1]), Save(often, "book", l[:i+1]))
	}
	wantBook(t, "saved often", often, "book", l)
	once := diskOf(t, "book", l)
	must(t, Compact(often, "book"), Compact(once, "book"))
	for what, d := range map[string]*disk.Disk{"often": often, "once": once} {
		wantBook(t, "compacted, saved "+what, d, "book", l)
		if files, bytes := room(d); files != 1 || bytes != bytesOf(l) {
			t.Errorf("saved %s: %d files of %d bytes, want 1 of %d", what, files, bytes, bytesOf(l))
		}
		d.Crash(0)
		must(t, Compact(d, "book"))
		wantBook(t, "compacted, crashed, compacted, saved "+what, d, "book", l)
		if files, bytes := room(d); files != 1 || bytes != bytesOf(l) {
			t.Errorf("saved %s, compacted again: %d files of %d bytes, want 1 of %d", what, files, bytes, bytesOf(l))
		}
	}
}

func TestDelete(t *testing.T) {
	f := family()
	d := diskOf(t, "book", f)
	must(t, Compact(d, "book"), Delete(d, "book"))
	if files, bytes := room(d); files != 0 || bytes != 0 {
		t.Errorf("deleted: %d files of %d bytes are left", files, bytes)
	}
	for _, crash := range []func(){func() {}, func() { d.Crash(0) }, func() { d.Crash(math.MaxInt) }} {
		crash()
		wantNone(t, "deleted", d, "book")
		wantNames(t, "deleted", d)
		wantTold(t, "Compact of a deleted book", Compact(d, "book"), api.ErrNone)
		wantTold(t, "Delete of a deleted book", Delete(d, "book"), api.ErrNone)
	}
	// What clashes with what was deleted clashes no more.
	l := []api.Change{unlike(f[0])}
	must(t, Save(d, "book", l))
	wantBook(t, "saved again", d, "book", l)
	wantNames(t, "saved again", d, "book")
	must(t, Compact(d, "book"))
	wantBook(t, "saved again, compacted", d, "book", l)
	must(t, Delete(d, "book"))
	wantNone(t, "deleted again", d, "book")
}

func TestTwoBooks(t *testing.T) {
	f, l := family(), listed()
	d := disk.New()
	must(t, Save(d, "b", l), Save(d, "abc", f))
	wantNames(t, "two books", d, "abc", "b")
	must(t, Save(d, "b", f))
	wantBook(t, "one saved", d, "abc", f)
	wantBook(t, "one saved", d, "b", inOrder(append(f, l...)...))
	must(t, Compact(d, "b"))
	wantBook(t, "the other one compacted", d, "abc", f)
	if files, bytes := room(d); files != 2 || bytes != bytesOf(f)+bytesOf(f)+bytesOf(l) {
		t.Errorf("two books: %d files of %d bytes", files, bytes)
	}
	must(t, Delete(d, "b"))
	wantBook(t, "the other one deleted", d, "abc", f)
	wantNone(t, "deleted", d, "b")
	wantNames(t, "one deleted", d, "abc")
	must(t, Save(d, "b", l[:1]))
	wantBook(t, "the other one written anew", d, "abc", f)
	wantBook(t, "written anew", d, "b", l[:1])
	d.Crash(0)
	wantBook(t, "the other one, crashed", d, "abc", f)
	wantBook(t, "written anew, crashed", d, "b", l[:1])
	must(t, Delete(d, "abc"))
	wantNames(t, "the other one deleted", d, "b")
	wantBook(t, "the other one deleted", d, "b", l[:1])
}

func TestNames(t *testing.T) {
	d := disk.New()
	for _, name := range []string{"b", "zz", "a", "ab", "zzzzzz", "aa", "z", "abcdef", "b"} {
		must(t, Save(d, name, nil))
	}
	wantNames(t, "several books", d, "a", "aa", "ab", "abcdef", "b", "z", "zz", "zzzzzz")
	Names(d)[0] = "x"
	wantNames(t, "what came out was written into", d, "a", "aa", "ab", "abcdef", "b", "z", "zz", "zzzzzz")
	must(t, Delete(d, "ab"), Compact(d, "z"))
	wantNames(t, "one deleted", d, "a", "aa", "abcdef", "b", "z", "zz", "zzzzzz")
	d.Crash(-1)
	wantNames(t, "crashed", d, "a", "aa", "abcdef", "b", "z", "zz", "zzzzzz")
	steps := d.Steps()
	Names(d)
	Load(d, "a")
	if d.Steps() != steps {
		t.Error("Names or Load did a step")
	}
}

// spoil writes into all that stands behind changes.
func spoil(l []api.Change) {
	for i := range l {
		for k := range l[i].Deps {
			l[i].Deps[k] = api.Ref{}
		}
		for k := range l[i].Ops {
			for p := range l[i].Ops[k].Preds {
				l[i].Ops[k].Preds[p] = api.Id{}
			}
			l[i].Ops[k] = api.Op{}
		}
		l[i] = api.Change{}
	}
}

// TestNotShared: what is handed in is neither changed nor kept, and what comes out is the caller's.
func TestNotShared(t *testing.T) {
	all := append(family(), listed()...)
	given := append(family(), listed()...)
	// What lies behind a list's length is not touched.
	long := append(given, one(9, 1, 1))[:len(given)]
	d := diskOf(t, "book", long)
	must(t, Save(d, "book", long))
	if !same(long, all) || !same(long[:len(long)+1][len(long):], []api.Change{one(9, 1, 1)}) {
		t.Errorf("Save changed what was handed in: %s", names(long[:len(long)+1]))
	}
	spoil(long)
	want := inOrder(all...)
	wantBook(t, "what was handed in is spoilt", d, "book", want)
	out, err := Load(d, "book")
	must(t, err)
	again, err := Load(d, "book")
	must(t, err)
	spoil(out)
	if !same(again, want) {
		t.Errorf("two answers share memory: got %s", names(again))
	}
	wantBook(t, "what came out is spoilt", d, "book", want)
	for i := range again {
		// No room behind a list is that of the next one.
		_ = append(again[i].Ops, api.Op{})
		_ = append(again[i].Deps, api.Ref{})
	}
	if !same(again, want) {
		t.Errorf("two lists of one answer share memory: got %s", names(again))
	}
}

// TestForeignFiles: what someone else wrote is no harm: calls end, and what is told hangs together.
func TestForeignFiles(t *testing.T) {
	f := family()
	part := func(l ...api.Change) (b []byte) {
		for _, c := range l {
			one, _ := change.Encode(c)
			b = append(b, one...)
		}
		return b
	}
	for what, c := range map[string]struct {
		bytes []byte
		want  []api.Change
	}{
		"garbage":            {[]byte("garbage"), nil},
		"noughts":            {make([]byte, 100), nil},
		"all bits":           {[]byte(strings.Repeat("\xff", 100)), nil},
		"a torn end":         {part(f...)[:len(part(f...))-1], f[:3]},
		"garbage behind":     {append(part(f...), 0xff, 0, 1), f},
		"one twice":          {part(f[0], f[1], f[0]), f[:2]},
		"one left out":       {part(f[0], f[1], f[3]), f[:2]},
		"another order":      {part(f[0], f[3], f[2], f[1]), f},
		"two unlike ones":    {part(f[0], unlike(f[0]), f[1]), f[:2]},
		"one that fits none": {part(f[0], one(7, 2, 1), f[1]), f[:2]},
	} {
		d := disk.New()
		must(t, d.Create("book"), d.Append("book", c.bytes), d.Create("not.a.book"), d.Create("0"))
		wantBook(t, what, d, "book", c.want)
		wantNames(t, what, d, "book")
		must(t, Compact(d, "book"))
		wantBook(t, what+", compacted", d, "book", c.want)
		if b, _ := d.Read("book"); len(b) != bytesOf(c.want) {
			t.Errorf("%s: compacted it has %d bytes, want %d", what, len(b), bytesOf(c.want))
		}
		must(t, Save(d, "book", f))
		wantBook(t, what+", saved", d, "book", f)
		must(t, Delete(d, "book"))
		wantNames(t, what+", deleted", d)
	}
}
