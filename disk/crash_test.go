package disk

import (
	"math"
	"testing"

	"commonbook/api"
)

func TestCrashUnsynced(t *testing.T) {
	for _, keep := range []int{-1, 0, 2, 100} {
		d := New()
		d.Crash(keep)
		wantFiles(t, d, "")
		must(t, d.Create("a"), d.Append("a", []byte("xyz")), d.Create("b"))
		d.Crash(keep)
		wantFiles(t, d, "")
		// The bytes of a file are safe, and its name is not.
		must(t, d.Create("a"), d.Append("a", []byte("xyz")), d.Sync("a"))
		d.Crash(keep)
		wantFiles(t, d, "")
		must(t, d.Create("a"))
		wantFiles(t, d, "a=")
	}
}

func TestCrashKeep(t *testing.T) {
	for keep, want := range map[int]string{
		math.MinInt: "a= b=12 c=123",
		-1:          "a= b=12 c=123",
		0:           "a= b=12 c=123",
		1:           "a=x b=12u c=123",
		2:           "a=xy b=12uv c=123",
		3:           "a=xyz b=12uv c=123",
		4:           "a=xyz b=12uv c=123",
		math.MaxInt: "a=xyz b=12uv c=123",
	} {
		// Of a nothing is safe, of b a part, of c all; the names are.
		d := with(t, "a=xyz", "b=12", "c=123")
		must(t, d.Sync("b"), d.Sync("c"), d.SyncNames(), d.Append("b", []byte("u")), d.Append("b", []byte("v")))
		d.Crash(keep)
		if got := look(d); got != want {
			t.Errorf("keep %d: got %q, want %q", keep, got, want)
		}
	}
}

func TestCrashFull(t *testing.T) {
	d := with(t, "a=")
	must(t, d.SyncNames(), d.Append("a", make([]byte, api.MaxBytes)))
	d.Crash(math.MaxInt)
	wantTold(t, "Append to a full file after a crash", d.Append("a", []byte("x")), api.ErrFull)
	d.Crash(0)
	if b, err := d.Read("a"); len(b) != api.MaxBytes || err != nil {
		t.Errorf("read %d bytes, %v", len(b), err)
	}
	d = with(t, "a=")
	must(t, d.SyncNames(), d.Append("a", make([]byte, api.MaxBytes)))
	d.Crash(api.MaxBytes - 1)
	must(t, d.Append("a", []byte("x")))
	wantTold(t, "Append to a file that is full again", d.Append("a", []byte("x")), api.ErrFull)
}

// TestCrashNames: what was made, renamed and removed since names were safe.
func TestCrashNames(t *testing.T) {
	for what, c := range map[string]struct {
		since func(d *Disk) []error
		want  string
	}{
		"nothing":   {func(d *Disk) []error { return nil }, "a=1 b=2"},
		"made":      {func(d *Disk) []error { return []error{d.Create("c"), d.Append("c", []byte("x")), d.Sync("c")} }, "a=1 b=2"},
		"removed":   {func(d *Disk) []error { return []error{d.Remove("a")} }, "a=1 b=2"},
		"renamed":   {func(d *Disk) []error { return []error{d.Rename("a", "c")} }, "a=1 b=2"},
		"onto":      {func(d *Disk) []error { return []error{d.Rename("a", "b")} }, "a=1 b=2"},
		"to itself": {func(d *Disk) []error { return []error{d.Rename("a", "a")} }, "a=1 b=2"},
		"exchanged": {func(d *Disk) []error {
			return []error{d.Rename("a", "c"), d.Rename("b", "a"), d.Rename("c", "b")}
		}, "a=1 b=2"},
		"made again": {func(d *Disk) []error {
			return []error{d.Remove("a"), d.Create("a"), d.Append("a", []byte("x")), d.Sync("a")}
		}, "a=1 b=2"},
		"made again behind a rename": {func(d *Disk) []error {
			return []error{d.Rename("a", "c"), d.Create("a"), d.Append("a", []byte("x")), d.Sync("a")}
		}, "a=1 b=2"},
		"appended, synced, removed": {func(d *Disk) []error {
			return []error{d.Append("a", []byte("x")), d.Sync("a"), d.Remove("a")}
		}, "a=1x b=2"},
		"appended, removed": {func(d *Disk) []error {
			return []error{d.Append("a", []byte("xyz")), d.Remove("a")}
		}, "a=1x b=2"},
		"renamed, appended, synced": {func(d *Disk) []error {
			return []error{d.Rename("a", "c"), d.Append("c", []byte("xy")), d.Sync("c"), d.Append("c", []byte("zu"))}
		}, "a=1xyz b=2"},
		"renamed onto, appended": {func(d *Disk) []error {
			return []error{d.Append("b", []byte("u")), d.Rename("a", "b"), d.Append("b", []byte("xy"))}
		}, "a=1x b=2u"},
		"names safe again": {func(d *Disk) []error {
			return []error{d.Rename("a", "c"), d.Remove("b"), d.Create("e"), d.Append("e", []byte("xy")), d.SyncNames(), d.Rename("c", "b"), d.Remove("e")}
		}, "c=1 e=x"},
	} {
		d := safely(t, with(t, "a=1", "b=2"))
		must(t, c.since(d)...)
		d.Crash(1)
		if got := look(d); got != c.want {
			t.Errorf("%s: got %q, want %q", what, got, c.want)
		}
		checkSafe(t, what, d)
	}
}

// checkSafe holds a disk that has just crashed to it that a crash loses nothing more, and that its files are its own.
func checkSafe(t *testing.T, what string, d *Disk) {
	t.Helper()
	was := look(d)
	for _, keep := range []int{0, -1, 5} {
		d.Crash(keep)
		if got := look(d); got != was {
			t.Errorf("%s: a second crash: got %q, want %q", what, got, was)
		}
	}
	for _, name := range d.Names() {
		must(t, d.Append(name, []byte("lost")), d.Remove(name))
	}
	d.Crash(0)
	if got := look(d); got != was {
		t.Errorf("%s: a crash after Append and Remove: got %q, want %q", what, got, was)
	}
}

// TestCrashTwoNames: calls never leave two names for one file, but were there two, they are two files after a crash.
func TestCrashTwoNames(t *testing.T) {
	d := safely(t, with(t, "a=1"))
	must(t, d.Rename("a", "b"), d.SyncNames())
	d.Crash(0)
	wantFiles(t, d, "b=1")
	must(t, d.Append("b", []byte("xy")))
	d.safe["a"] = d.files["b"]
	d.Crash(1)
	wantFiles(t, d, "a=1x b=1x")
	must(t, d.Append("a", []byte("u")), d.Sync("a"), d.Append("b", []byte("v")))
	wantFiles(t, d, "a=1xu b=1xv")
	d.Crash(0)
	wantFiles(t, d, "a=1xu b=1x")
	must(t, d.Remove("a"), d.SyncNames(), d.Append("b", []byte("w")))
	d.Crash(1)
	wantFiles(t, d, "b=1xw")
}

// TestCrashGoesOn: after a crash a disk is one like any other.
func TestCrashGoesOn(t *testing.T) {
	d := safely(t, with(t, "a=1", "b=2"))
	d.Crash(0)
	must(t, d.Append("a", []byte("xy")), d.Create("c"), d.Remove("b"))
	wantFiles(t, d, "a=1xy c=")
	d.Crash(1)
	wantFiles(t, d, "a=1x b=2")
	must(t, d.Create("c"), d.Append("c", []byte("z")), d.SyncNames(), d.Append("a", []byte("y")), d.Sync("a"))
	d.Crash(0)
	wantFiles(t, d, "a=1xy b=2 c=")
}
