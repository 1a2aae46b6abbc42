package disk

import (
	"bytes"
	"fmt"
	"slices"
	"strings"
	"testing"

	"commonbook/api"
	"commonbook/plain"
)

func must(t *testing.T, errs ...error) {
	t.Helper()
	for i, err := range errs {
		if err != nil {
			t.Fatalf("step %d: got %v", i, err)
		}
	}
}

func wantTold(t *testing.T, what string, err error, want api.Errno) {
	t.Helper()
	if want == api.OK && err != nil || want != api.OK && (err == nil || plain.Told(err) != want) {
		t.Errorf("%s: error %v, want %v", what, err, want)
	}
}

// look is all that can be read of a disk: its files as NAME=BYTES.
func look(d *Disk) string {
	var l []string
	for _, name := range d.Names() {
		b, err := d.Read(name)
		if err != nil {
			return fmt.Sprintf("Read of %q, which is a name: %v", name, err)
		}
		l = append(l, name+"="+string(b))
	}
	return strings.Join(l, " ")
}

func wantFiles(t *testing.T, d *Disk, want string) {
	t.Helper()
	if got := look(d); got != want {
		t.Errorf("files: got %q, want %q", got, want)
	}
}

// whole is all that a later call could tell of a disk: what is read now, and what a crash would leave.
func whole(d *Disk) string {
	s := fmt.Sprint(look(d), "; steps ", d.steps, ", stop ", d.stop)
	for _, keep := range []int{0, 1, 2, api.MaxBytes} {
		s += "; " + look(crashed(d, keep))
	}
	return s
}

// crashed is what a disk would be after a crash; the disk itself stays as it is.
func crashed(d *Disk, keep int) *Disk {
	c := &Disk{files: d.files, safe: d.safe, steps: d.steps, stop: d.stop}
	c.Crash(keep)
	return c
}

// with makes a disk of files, each given as NAME=BYTES.
func with(t *testing.T, files ...string) *Disk {
	t.Helper()
	d := New()
	for _, f := range files {
		name, b, _ := strings.Cut(f, "=")
		must(t, d.Create(name), d.Append(name, []byte(b)))
	}
	return d
}

// safely makes names and bytes safe.
func safely(t *testing.T, d *Disk) *Disk {
	t.Helper()
	for _, name := range d.Names() {
		must(t, d.Sync(name))
	}
	must(t, d.SyncNames())
	return d
}

func TestNew(t *testing.T) {
	d, other := New(), New()
	if len(d.Names()) != 0 || d.Steps() != 0 {
		t.Errorf("a new disk: names %q, steps %d", d.Names(), d.Steps())
	}
	must(t, d.Create("a"), d.SyncNames())
	if len(other.Names()) != 0 || other.Steps() != 0 {
		t.Errorf("another disk: names %q, steps %d", other.Names(), other.Steps())
	}
}

func TestCreate(t *testing.T) {
	d := New()
	must(t, d.Create("b"), d.Create("a"))
	wantFiles(t, d, "a= b=")
	must(t, d.Append("a", []byte("xyz")))
	wantTold(t, "Create of a name that is there", d.Create("a"), api.ErrClash)
	wantFiles(t, d, "a=xyz b=")
	must(t, d.Remove("a"), d.Create("a"))
	wantFiles(t, d, "a= b=")
	must(t, d.Rename("a", "c"), d.Create("a"))
	wantFiles(t, d, "a= b= c=")
	wantTold(t, "Create of a name by a rename", d.Create("c"), api.ErrClash)
}

// names that are some, and names that are none.
func goodNames() []string {
	l := []string{"abcdefghijkl", "mnopqrstuvwx", "yz0123456789", "............", "0", "9.", ".a", "a.9", "book.tmp.1"}
	for b := range 256 {
		if strings.ContainsRune("abcdefghijklmnopqrstuvwxyz0123456789.", rune(b)) {
			l = append(l, "x"+string([]byte{byte(b)})+"z")
		}
	}
	return l
}

func badNames() []string {
	l := []string{"", "abcdefghijklm", ".............", strings.Repeat("a", 24), strings.Repeat("a", 256+1), strings.Repeat("a", 70_000), "é", "a\x00", " a", "a ", "A", "a/b"}
	for b := range 256 {
		if !strings.ContainsRune("abcdefghijklmnopqrstuvwxyz0123456789.", rune(b)) {
			c := string([]byte{byte(b)})
			l = append(l, c, "x"+c+"z", c+"z", "x"+c)
		}
	}
	return l
}

func TestNames(t *testing.T) {
	for _, name := range goodNames() {
		d := New()
		wantTold(t, fmt.Sprintf("Read of %q", name), second(d.Read(name)), api.ErrNone)
		wantTold(t, fmt.Sprintf("Create of %q", name), d.Create(name), api.OK)
		wantTold(t, fmt.Sprintf("Append to %q", name), d.Append(name, []byte("x")), api.OK)
		wantTold(t, fmt.Sprintf("Sync of %q", name), d.Sync(name), api.OK)
		wantFiles(t, d, name+"=x")
		wantTold(t, fmt.Sprintf("Rename of %q", name), d.Rename(name, "q"), api.OK)
		wantTold(t, fmt.Sprintf("Rename to %q", name), d.Rename("q", name), api.OK)
		wantTold(t, fmt.Sprintf("Remove of %q", name), d.Remove(name), api.OK)
		wantFiles(t, d, "")
	}
	d := safely(t, with(t, "a=xyz"))
	was := whole(d)
	for _, name := range badNames() {
		b, err := d.Read(name)
		if len(b) != 0 {
			t.Errorf("Read of %q: got %q", name, b)
		}
		wantTold(t, fmt.Sprintf("Read of %q", name), err, api.ErrSyntax)
		for what, err := range map[string]error{
			"Create":      d.Create(name),
			"Append":      d.Append(name, []byte("x")),
			"Sync":        d.Sync(name),
			"Rename from": d.Rename(name, "b"),
			"Rename to":   d.Rename("a", name),
			"Remove":      d.Remove(name),
		} {
			wantTold(t, fmt.Sprintf("%s %q", what, name), err, api.ErrSyntax)
		}
	}
	if got := whole(d); got != was {
		t.Errorf("after calls with names that are none: got %s, want %s", got, was)
	}
}

func second(_ []byte, err error) error { return err }

func TestNone(t *testing.T) {
	d := safely(t, with(t, "a=xyz", "b=12"))
	// A name that was there once is there no more.
	must(t, d.Remove("b"), d.SyncNames())
	was := whole(d)
	for _, name := range []string{"b", "c", "a.", "aa", "aaaaaaaaaaaa"} {
		b, err := d.Read(name)
		if len(b) != 0 {
			t.Errorf("Read of %q: got %q", name, b)
		}
		wantTold(t, "Read of "+name, err, api.ErrNone)
		wantTold(t, "Append to "+name, d.Append(name, []byte("x")), api.ErrNone)
		wantTold(t, "Append of nothing to "+name, d.Append(name, nil), api.ErrNone)
		wantTold(t, "Sync of "+name, d.Sync(name), api.ErrNone)
		wantTold(t, "Rename of "+name, d.Rename(name, "d"), api.ErrNone)
		wantTold(t, "Rename to itself of "+name, d.Rename(name, name), api.ErrNone)
		wantTold(t, "Rename onto a, of "+name, d.Rename(name, "a"), api.ErrNone)
		wantTold(t, "Remove of "+name, d.Remove(name), api.ErrNone)
	}
	if got := whole(d); got != was {
		t.Errorf("after calls with names that are not there: got %s, want %s", got, was)
	}
}

func TestAppend(t *testing.T) {
	d := with(t, "a=", "b=")
	must(t, d.Append("a", []byte("xyz")), d.Append("b", []byte("1")), d.Append("a", nil), d.Append("a", []byte{}), d.Append("a", []byte("uv")))
	wantFiles(t, d, "a=xyzuv b=1")
	every := make([]byte, 256)
	for i := range every {
		every[i] = byte(i)
	}
	must(t, d.Append("b", every))
	wantFiles(t, d, "a=xyzuv b=1"+string(every))
}

func TestAppendFull(t *testing.T) {
	for _, pieces := range [][]int{
		{api.MaxBytes},
		{0, api.MaxBytes},
		{1, api.MaxBytes - 1},
		{api.MaxBytes - 1, 1},
		{20_000, 20_000, 19_999, 1},
		{59_999, 0, 1},
	} {
		d := with(t, "a=", "b=")
		var want []byte
		for i, n := range pieces {
			b := bytes.Repeat([]byte{byte('p' + i)}, n)
			want = append(want, b...)
			must(t, d.Append("a", b))
		}
		was := whole(d)
		for _, n := range []int{1, 2, api.MaxBytes, api.MaxBytes + 1, 200_000} {
			wantTold(t, fmt.Sprintf("Append of %d to a full file", n), d.Append("a", make([]byte, n)), api.ErrFull)
		}
		if whole(d) != was {
			t.Errorf("pieces %v: a refused Append changed something", pieces)
		}
		must(t, d.Append("a", nil), d.Sync("a"), d.Append("b", []byte("x")))
		got, err := d.Read("a")
		if err != nil || !bytes.Equal(got, want) {
			t.Errorf("pieces %v: read %d bytes, %v", pieces, len(got), err)
		}
	}
	d := with(t, "a=", "b=xyz")
	was := whole(d)
	wantTold(t, "Append of one too many", d.Append("a", make([]byte, api.MaxBytes+1)), api.ErrFull)
	wantTold(t, "Append of one too many behind some", d.Append("b", make([]byte, api.MaxBytes-2)), api.ErrFull)
	if whole(d) != was {
		t.Error("a refused Append changed something")
	}
	must(t, d.Append("b", make([]byte, api.MaxBytes-3)))
	// A file is as full under its new name, and one of its old name is not.
	must(t, d.Rename("b", "c"), d.Create("b"), d.Append("b", make([]byte, api.MaxBytes)))
	wantTold(t, "Append under a new name", d.Append("c", []byte("x")), api.ErrFull)
}

func TestRename(t *testing.T) {
	d := with(t, "a=1", "b=2", "c=3")
	must(t, d.Rename("a", "d"))
	wantFiles(t, d, "b=2 c=3 d=1")
	wantTold(t, "Read of the old name", second(d.Read("a")), api.ErrNone)
	must(t, d.Rename("b", "c"))
	wantFiles(t, d, "c=2 d=1")
	must(t, d.Rename("c", "c"))
	wantFiles(t, d, "c=2 d=1")
	must(t, d.Append("c", []byte("x")), d.Rename("d", "a"), d.Append("a", []byte("y")))
	wantFiles(t, d, "a=1y c=2x")
	// Names change places by way of a third one.
	must(t, d.Rename("a", "t"), d.Rename("c", "a"), d.Rename("t", "c"))
	wantFiles(t, d, "a=2x c=1y")
}

func TestRemove(t *testing.T) {
	d := with(t, "a=1", "b=2", "c=3")
	must(t, d.Remove("b"))
	wantFiles(t, d, "a=1 c=3")
	wantTold(t, "Remove once more", d.Remove("b"), api.ErrNone)
	must(t, d.Remove("a"), d.Remove("c"))
	wantFiles(t, d, "")
}

// TestFirstError: what is told where several things are wrong.
func TestFirstError(t *testing.T) {
	d := with(t, "a=")
	much := make([]byte, api.MaxBytes+1)
	wantTold(t, "Append of too much to a name that is none", d.Append("A", much), api.ErrSyntax)
	wantTold(t, "Append of too much to a file that is not there", d.Append("b", much), api.ErrNone)
	wantTold(t, "Rename from none, to a name that is none", d.Rename("b", ""), api.ErrSyntax)
	wantTold(t, "Rename from a name that is none, onto a file", d.Rename("B", "a"), api.ErrSyntax)
	wantTold(t, "Rename of two names that are none", d.Rename("", "B"), api.ErrSyntax)
	wantTold(t, "Rename to itself of a name that is none", d.Rename("", ""), api.ErrSyntax)
	d.Stop(0)
	wantTold(t, "Create, stopped", d.Create("a"), api.ErrState)
	wantTold(t, "Create of a name that is none, stopped", d.Create("A"), api.ErrState)
	wantTold(t, "Append of too much, stopped", d.Append("a", much), api.ErrState)
	wantTold(t, "Append to a name that is none, stopped", d.Append("", much), api.ErrState)
	wantTold(t, "Sync of none, stopped", d.Sync("b"), api.ErrState)
	wantTold(t, "Sync of a name that is none, stopped", d.Sync("B"), api.ErrState)
	wantTold(t, "Rename of none, stopped", d.Rename("b", "c"), api.ErrState)
	wantTold(t, "Rename of names that are none, stopped", d.Rename("", "C"), api.ErrState)
	wantTold(t, "Remove of none, stopped", d.Remove("b"), api.ErrState)
	wantTold(t, "Remove of a name that is none, stopped", d.Remove("-"), api.ErrState)
	// Reads are no steps: no Stop is told of.
	wantTold(t, "Read of none, stopped", second(d.Read("b")), api.ErrNone)
	wantTold(t, "Read of a name that is none, stopped", second(d.Read("B")), api.ErrSyntax)
}

func TestNamesOrder(t *testing.T) {
	d := New()
	for _, name := range []string{"b", "z9", "a", "9", "0", "a.", ".", "aa", "a0", "10", "..", "zz", "abcdefghijkl", "2"} {
		must(t, d.Create(name))
	}
	want := []string{".", "..", "0", "10", "2", "9", "a", "a.", "a0", "aa", "abcdefghijkl", "b", "z9", "zz"}
	if got := d.Names(); !slices.Equal(got, want) {
		t.Errorf("Names: got %q, want %q", got, want)
	}
	must(t, d.SyncNames())
	d.Crash(0)
	if got := d.Names(); !slices.Equal(got, want) {
		t.Errorf("Names after a crash: got %q, want %q", got, want)
	}
}

// TestShare: bytes that are handed in and handed out are the caller's.
func TestShare(t *testing.T) {
	d := with(t, "a=")
	room := []byte("xyz, and more behind")
	b := room[:3]
	must(t, d.Append("a", b))
	if string(room) != "xyz, and more behind" {
		t.Errorf("Append changed what was handed in: %q", room)
	}
	room[0] = '!'
	must(t, d.Append("a", []byte("uvw")))
	wantFiles(t, d, "a=xyzuvw")
	if string(room) != "!yz, and more behind" {
		t.Errorf("Append wrote behind what was handed in: %q", room)
	}
	one, _ := d.Read("a")
	two, _ := d.Read("a")
	clear(one)
	_ = append(one, "over"...)
	_ = append(one[:0], "spoilt"...)
	if string(two) != "xyzuvw" {
		t.Errorf("two reads share memory: %q", two)
	}
	wantFiles(t, d, "a=xyzuvw")
	must(t, d.Append("a", []byte("!")))
	if string(two) != "xyzuvw" {
		t.Errorf("a read shares memory with the file: %q", two)
	}
	names := d.Names()
	names[0] = "q"
	wantFiles(t, d, "a=xyzuvw!")
	safely(t, d)
	three, _ := d.Read("a")
	clear(three)
	d.Crash(0)
	wantFiles(t, d, "a=xyzuvw!")
	four, _ := d.Read("a")
	clear(four)
	d.Crash(0)
	wantFiles(t, d, "a=xyzuvw!")
}
