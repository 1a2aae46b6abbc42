package disk

import (
	"fmt"
	"math"
	"testing"

	"commonbook/api"
)

func wantSteps(t *testing.T, what string, d *Disk, want int) {
	t.Helper()
	if got := d.Steps(); got != want {
		t.Errorf("Steps after %s: got %d, want %d", what, got, want)
	}
}

func TestSteps(t *testing.T) {
	d := New()
	wantSteps(t, "New", d, 0)
	for i, c := range []struct {
		what string
		do   func() error
	}{
		{"Create", func() error { return d.Create("a") }},
		{"Append", func() error { return d.Append("a", []byte("xyz")) }},
		{"Append of nothing", func() error { return d.Append("a", nil) }},
		{"Sync", func() error { return d.Sync("a") }},
		{"Sync once more", func() error { return d.Sync("a") }},
		{"SyncNames", func() error { return d.SyncNames() }},
		{"SyncNames once more", func() error { return d.SyncNames() }},
		{"Rename", func() error { return d.Rename("a", "b") }},
		{"Rename to itself", func() error { return d.Rename("b", "b") }},
		{"Remove", func() error { return d.Remove("b") }},
		{"Create again", func() error { return d.Create("a") }},
	} {
		must(t, c.do())
		wantSteps(t, c.what, d, i+1)
		refuse(t, d, "none")
		wantSteps(t, "refused calls behind "+c.what, d, i+1)
		d.Read("a")
		d.Read("none")
		d.Names()
		wantSteps(t, "reads behind "+c.what, d, i+1)
	}
	wantTold(t, "Create of a name that is there", d.Create("a"), api.ErrClash)
	wantTold(t, "Append of too much", d.Append("a", make([]byte, api.MaxBytes+1)), api.ErrFull)
	wantSteps(t, "refused calls", d, 11)
	d.Stop(11)
	wantTold(t, "SyncNames, stopped", d.SyncNames(), api.ErrState)
	wantSteps(t, "calls ahead of which the disk stopped", d, 11)
	d.Crash(0)
	wantSteps(t, "a crash", d, 0)
	must(t, d.SyncNames())
	wantSteps(t, "a step after a crash", d, 1)
	d.Crash(5)
	wantSteps(t, "another crash", d, 0)
}

// refuse makes calls that are all refused: of a name that is not there, of a name that is none.
func refuse(t *testing.T, d *Disk, name string) {
	t.Helper()
	for what, errs := range map[string][2]error{
		"Append": {d.Append(name, nil), d.Append("", nil)},
		"Sync":   {d.Sync(name), d.Sync("")},
		"Rename": {d.Rename(name, "a"), d.Rename("a", "")},
		"Remove": {d.Remove(name), d.Remove("")},
		"Create": {api.ErrNone, d.Create("")},
	} {
		wantTold(t, what+" of "+name, errs[0], api.ErrNone)
		wantTold(t, what+" of no name", errs[1], api.ErrSyntax)
	}
}

// writes are all calls that count, each of which would be done.
func writes(d *Disk) map[string]func() error {
	return map[string]func() error{
		"Create":    func() error { return d.Create("c") },
		"Append":    func() error { return d.Append("a", []byte("x")) },
		"Sync":      func() error { return d.Sync("a") },
		"SyncNames": func() error { return d.SyncNames() },
		"Rename":    func() error { return d.Rename("a", "b") },
		"Remove":    func() error { return d.Remove("a") },
	}
}

// halfSafe is a disk of which a=1, b=2 is safe, and on which nothing that a write does is without a trace.
func halfSafe(t *testing.T) *Disk {
	t.Helper()
	d := safely(t, with(t, "a=1", "b=2"))
	d.Crash(0)
	must(t, d.Append("a", []byte("xyz")), d.Create("d"))
	return d
}

func TestStopEach(t *testing.T) {
	for what := range writes(New()) {
		for _, at := range []int{0, 1, 2} {
			d := halfSafe(t)
			d.Stop(at)
			was := whole(d)
			for range 3 {
				wantTold(t, fmt.Sprintf("%s, stopped at %d", what, at), writes(d)[what](), api.ErrState)
			}
			if got := whole(d); got != was {
				t.Errorf("%s, stopped at %d: got %s, want %s", what, at, got, was)
			}
			wantFiles(t, d, "a=1xyz b=2 d=")
			d.Crash(1)
			wantFiles(t, d, "a=1x b=2")
			wantTold(t, what+" after a crash", writes(d)[what](), api.OK)
		}
		for _, at := range []int{3, 4, math.MaxInt, -1, -2, math.MinInt} {
			d := halfSafe(t)
			d.Stop(at)
			wantTold(t, fmt.Sprintf("%s, to stop at %d", what, at), writes(d)[what](), api.OK)
			want := api.OK
			if at == 3 {
				want = api.ErrState
			}
			wantTold(t, fmt.Sprintf("SyncNames behind %s, to stop at %d", what, at), d.SyncNames(), want)
		}
	}
}

// TestStopTold: refused calls and reads do not bring a Stop nearer.
func TestStopTold(t *testing.T) {
	d := New()
	d.Stop(2)
	refuse(t, d, "none")
	must(t, d.Create("a"))
	refuse(t, d, "none")
	d.Names()
	d.Read("a")
	must(t, d.Append("a", []byte("x")))
	wantTold(t, "Append, stopped", d.Append("a", []byte("y")), api.ErrState)
	if b, err := d.Read("a"); string(b) != "x" || err != nil {
		t.Errorf("Read, stopped: got %q, %v", b, err)
	}
	if names := d.Names(); len(names) != 1 || names[0] != "a" {
		t.Errorf("Names, stopped: got %q", names)
	}
	wantSteps(t, "a Stop", d, 2)
}

// TestStopAgain: the last Stop is the one that holds.
func TestStopAgain(t *testing.T) {
	d := New()
	d.Stop(0)
	wantTold(t, "Create, stopped at 0", d.Create("a"), api.ErrState)
	d.Stop(1)
	must(t, d.Create("a"))
	wantTold(t, "SyncNames, stopped at 1", d.SyncNames(), api.ErrState)
	d.Stop(-1)
	must(t, d.SyncNames(), d.SyncNames())
	d.Stop(5)
	d.Stop(1)
	wantTold(t, "SyncNames, stopped at a number that has passed", d.SyncNames(), api.ErrState)
	wantSteps(t, "Stops", d, 3)
}

// TestStopCrash: a crash ends a Stop that was reached, and one that was to come.
func TestStopCrash(t *testing.T) {
	for _, at := range []int{0, 1, 2, 3, 7} {
		d := New()
		must(t, d.Create("a"), d.SyncNames())
		d.Stop(at)
		d.Crash(0)
		for range 10 {
			must(t, d.Append("a", []byte("x")))
		}
		wantSteps(t, "a crash", d, 10)
		// A Stop counts from the crash on.
		d.Crash(0)
		d.Stop(1)
		must(t, d.Sync("a"))
		wantTold(t, "Sync, stopped at 1", d.Sync("a"), api.ErrState)
	}
}

// TestNoStop: where no Stop was told of, a disk does not stop.
func TestNoStop(t *testing.T) {
	d := New()
	for range 2 {
		for range 20_000 {
			must(t, d.SyncNames())
		}
		wantSteps(t, "many calls", d, 20_000)
		d.Crash(0)
	}
}
