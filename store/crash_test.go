package store

import (
	"fmt"
	"math"
	"slices"
	"testing"

	"commonbook/api"
	"commonbook/disk"
	"commonbook/plain"
	"commonbook/state"
)

// keeps are numbers of bytes that a crash leaves: none, some, all.
var keeps = []int{math.MinInt, -1, 0, 1, 2, 9, 20, 45, 100, math.MaxInt}

func has(l []api.Change, c api.Change) bool {
	return slices.ContainsFunc(l, func(x api.Change) bool { return same([]api.Change{x}, []api.Change{c}) })
}

// hasAll tells whether all of some are among others.
func hasAll(others, some []api.Change) bool {
	return !slices.ContainsFunc(some, func(c api.Change) bool { return !has(others, c) })
}

// look gives what is kept, and whether there is a book; what is told hangs together, in the order of All, and no other error is told.
func look(t *testing.T, what string, d *disk.Disk, name string) ([]api.Change, bool) {
	t.Helper()
	l, err := Load(d, name)
	if told := plain.Told(err); told != api.OK && told != api.ErrNone {
		t.Fatalf("%s: Load: got %v", what, err)
	}
	if _, err := state.Text(l); err != nil || !same(l, inOrder(l...)) {
		t.Fatalf("%s: what is kept does not hang together: %s, %v", what, names(l), err)
	}
	if there := slices.Contains(Names(d), name); there != (err == nil) {
		t.Fatalf("%s: Names has %q: %v, and Load tells %v", what, name, there, err)
	}
	return l, err == nil
}

// scene is a call in which a disk may stop.
type scene struct {
	// begin makes what is there, without an error; none if it is nil.
	begin func(d *disk.Disk) []error
	call  func(d *disk.Disk) error
	// safe is what is there whatever comes, done what is there after the call. May a book not be there? gone: if the call stops; deleted: if it is done, and then it must not.
	safe, done    []api.Change
	gone, deleted bool
}

func (s scene) wantLeft(t *testing.T, what string, d *disk.Disk, err error) []api.Change {
	t.Helper()
	got, there := look(t, what, d, "book")
	switch {
	case err == nil && there == s.deleted:
		t.Errorf("%s: there is a book: %v", what, there)
	case err == nil && !s.deleted && !same(got, s.done):
		t.Errorf("%s: got %s, want %s", what, names(got), names(s.done))
	case err != nil && !there && !s.gone:
		t.Errorf("%s: there is no book", what)
	case there && !s.deleted && !hasAll(got, s.safe):
		t.Errorf("%s: got %s, and not all of %s", what, names(got), names(s.safe))
	case !hasAll(append(slices.Clone(s.safe), s.done...), got):
		t.Errorf("%s: got %s, which is more than was given", what, names(got))
	}
	wantBook(t, what+", another book", d, "other", listed())
	return got
}

// start makes a disk with another book, on which so many steps of the call are done and no more.
func (s scene) start(t *testing.T, at int) *disk.Disk {
	t.Helper()
	d := disk.New()
	must(t, Save(d, "other", listed()))
	if s.begin != nil {
		must(t, s.begin(d)...)
	}
	d.Stop(d.Steps() + at)
	return d
}

// wantTight: the disk has a file for each book, and no bytes but those of its changes.
func wantTight(t *testing.T, what string, d *disk.Disk) {
	t.Helper()
	want := 0
	for _, name := range Names(d) {
		l, err := Load(d, name)
		must(t, err)
		want += bytesOf(l)
	}
	if files, bytes := room(d); files != len(Names(d)) || bytes != want {
		t.Errorf("%s: %d files of %d bytes, want %d of %d", what, files, bytes, len(Names(d)), want)
	}
}

// more is saved after a crash.
func more() []api.Change { return chain(8, 2) }

// goOn: a Save afterwards goes on from what is there, and a Compact leaves one file of it.
func goOn(t *testing.T, what string, d *disk.Disk, got []api.Change) {
	t.Helper()
	want := inOrder(append(slices.Clone(got), more()...)...)
	must(t, Save(d, "book", more()))
	wantBook(t, what+", saved", d, "book", want)
	d.Crash(-1)
	wantBook(t, what+", saved and crashed", d, "book", want)
	must(t, Compact(d, "book"))
	wantBook(t, what+", compacted", d, "book", want)
	wantBook(t, what+", another book", d, "other", listed())
	wantTight(t, what+", compacted", d)
	must(t, Delete(d, "book"))
	d.Crash(math.MaxInt)
	wantNone(t, what+", deleted", d, "book")
	wantTight(t, what+", deleted", d)
}

// play lets the disk stop at each step of the call, till it stops behind it.
func (s scene) play(t *testing.T, what string) {
	for at := 0; ; at++ {
		var err error
		for _, keep := range keeps {
			what := fmt.Sprintf("%s, stopped at %d, %d kept", what, at, keep)
			d := s.start(t, at)
			err = s.call(d)
			if told := plain.Told(err); told != api.OK && told != api.ErrState {
				t.Fatalf("%s: got %v", what, err)
			}
			s.wantLeft(t, what+", stopped", d, err)
			d.Crash(keep)
			got := s.wantLeft(t, what, d, err)
			// No crash leaves what a book was being written to.
			wantTight(t, what, d)
			d.Crash(keep)
			if again := s.wantLeft(t, what+", crashed again", d, err); !same(got, again) {
				t.Errorf("%s: another crash makes %s of %s", what, names(again), names(got))
			}
			goOn(t, what, d, got)

			// The disk goes on without a crash: what was told then is there.
			d = s.start(t, at)
			s.call(d)
			d.Stop(-1)
			got, _ = look(t, what, d, "book")
			goOn(t, what+", not crashed", d, got)
		}
		if t.Failed() || err == nil && at > 0 {
			return
		}
	}
}

// begins are ways to come to a book that has some changes.
func begins(l []api.Change) map[string]func(d *disk.Disk) []error {
	stop := func(d *disk.Disk, at int, call func()) {
		d.Stop(d.Steps() + at)
		call()
		d.Stop(-1)
	}
	return map[string]func(d *disk.Disk) []error{
		"saved": func(d *disk.Disk) []error { return []error{Save(d, "book", l)} },
		"saved often": func(d *disk.Disk) []error {
			return []error{Save(d, "book", l[:1]), Save(d, "book", nil), Save(d, "book", l)}
		},
		"compacted":    func(d *disk.Disk) []error { return []error{Save(d, "book", l), Compact(d, "book")} },
		"beside more":  func(d *disk.Disk) []error { return []error{Save(d, "book", l), Save(d, "more", l), Delete(d, "more")} },
		"saved behind": func(d *disk.Disk) []error { return []error{Save(d, "more", l), Save(d, "book", l), Save(d, "more", l)} },
		"written anew": func(d *disk.Disk) []error {
			return []error{Save(d, "book", more()), Delete(d, "book"), Save(d, "book", l)}
		},
		"crashed": func(d *disk.Disk) []error {
			err := Save(d, "book", l)
			d.Crash(0)
			return []error{err}
		},
		"stopped": func(d *disk.Disk) []error {
			for at := range 5 {
				stop(d, at, func() { Save(d, "book", l) })
				stop(d, at, func() { Save(d, "other", listed()) })
			}
			return []error{Save(d, "book", l)}
		},
		"deleted, stopped": func(d *disk.Disk) []error {
			err := Save(d, "book", more())
			stop(d, 1, func() { Delete(d, "book") })
			return []error{err, Save(d, "book", l)}
		},
		"compacted, stopped": func(d *disk.Disk) []error {
			err := Save(d, "book", l)
			stop(d, 2, func() { Compact(d, "book") })
			return []error{err}
		},
	}
}

// K2: a Save that stops.
func TestSaveStops(t *testing.T) {
	f := family()
	first := func(l []api.Change) func(d *disk.Disk) error {
		return func(d *disk.Disk) error { return Save(d, "book", l) }
	}
	scene{call: first(f), done: f, gone: true}.play(t, "the first Save")
	scene{call: first(nil), gone: true}.play(t, "the first Save, of no changes")
	for how, begin := range begins(f[:2]) {
		scene{begin: begin, call: first(f), safe: f[:2], done: f}.play(t, "Save, "+how)
		scene{begin: begin, call: first(f[:1]), safe: f[:2], done: f[:2]}.play(t, "Save of what is kept, "+how)
		scene{begin: begin, call: first(nil), safe: f[:2], done: f[:2]}.play(t, "Save of no changes, "+how)
		scene{begin: begin, call: first(listed()), safe: f[:2], done: inOrder(append(listed(), f[:2]...)...)}.play(t, "Save of others, "+how)
	}
}

// K2: nothing but books has a name while one is written, and a Delete leaves nothing of one that was.
func TestStopsBeside(t *testing.T) {
	f := family()
	for at := range 8 {
		for _, keep := range keeps {
			what := fmt.Sprintf("Save of another book, stopped at %d, %d kept", at, keep)
			d := diskOf(t, "book", f)
			d.Stop(d.Steps() + at)
			want := []string{"book"}
			if err := Save(d, "third", listed()); err == nil || slices.Contains(d.Names(), "third") {
				want = []string{"book", "third"}
			}
			wantNames(t, what, d, want...)
			d.Stop(-1)
			must(t, Delete(d, "book"))
			wantNames(t, what+", deleted", d, want[1:]...)
			wantTight(t, what+", deleted", d)
			d.Crash(keep)
			wantNames(t, what+", deleted, crashed", d, want[1:]...)
			wantTight(t, what+", deleted, crashed", d)
		}
	}
}

// K2: a Save of several, at the end of each of which the book has them all.
func TestSavesStop(t *testing.T) {
	l := chain(7, 4)
	call := func(d *disk.Disk) (err error) {
		for i := 0; i <= len(l) && err == nil; i++ {
			err = Save(d, "book", l[:i])
		}
		return err
	}
	scene{call: call, done: l, gone: true}.play(t, "several Saves")
	scene{begin: begins(family())["saved"], call: call, safe: family(), done: inOrder(append(family(), l...)...)}.play(t, "several Saves, of a book")
}

// K2: a Compact that stops.
func TestCompactStops(t *testing.T) {
	f := family()
	for how, begin := range begins(f) {
		call := func(d *disk.Disk) error { return Compact(d, "book") }
		scene{begin: begin, call: call, safe: f, done: f}.play(t, "Compact, "+how)
	}
}

// K2: a Delete that stops, and one that does not and is safe.
func TestDeleteStops(t *testing.T) {
	f := family()
	for how, begin := range begins(f) {
		call := func(d *disk.Disk) error { return Delete(d, "book") }
		scene{begin: begin, call: call, done: f, gone: true, deleted: true}.play(t, "Delete, "+how)
	}
}

// K2: a Save behind a Delete that was done has nothing of what was there ahead of it.
func TestSaveBehindDelete(t *testing.T) {
	f := family()
	for how, begin := range begins(f) {
		gone := func(d *disk.Disk) []error { return append(begin(d), Delete(d, "book")) }
		call := func(d *disk.Disk) error { return Save(d, "book", listed()) }
		scene{begin: gone, call: call, done: listed(), gone: true}.play(t, "Save behind a Delete, "+how)
	}
}

// K2: a call on another book that stops leaves this one as it was.
func TestOtherStops(t *testing.T) {
	f := family()
	for how, begin := range begins(f) {
		for what, call := range map[string]func(d *disk.Disk) error{
			"Save":    func(d *disk.Disk) error { return Save(d, "third", chain(7, 3)) },
			"Compact": func(d *disk.Disk) error { return Compact(d, "third") },
			"Delete":  func(d *disk.Disk) error { return Delete(d, "third") },
		} {
			for at := range 8 {
				for _, keep := range keeps {
					d := scene{begin: begin}.start(t, 100)
					must(t, Save(d, "third", listed()))
					d.Stop(d.Steps() + at)
					call(d)
					wantBook(t, what+" of another book stopped, "+how, d, "book", f)
					d.Crash(keep)
					wantBook(t, what+" of another book stopped and crashed, "+how, d, "book", f)
				}
			}
		}
	}
}

// K2: a Save of what a Save that stopped has left to be told makes it safe.
func TestSaveAgain(t *testing.T) {
	f := family()
	for at := range 8 {
		for what, l := range map[string][]api.Change{"the same": f, "some": f[:1], "none": nil} {
			for _, keep := range keeps {
				d := diskOf(t, "book", f[:1])
				d.Stop(d.Steps() + at)
				Save(d, "book", f)
				d.Stop(-1)
				told, _ := look(t, "stopped", d, "book")
				must(t, Save(d, "book", l))
				d.Crash(keep)
				wantBook(t, fmt.Sprintf("stopped at %d, then a Save of %s, %d kept", at, what, keep), d, "book", inOrder(append(told, l...)...))
			}
		}
	}
}

// K2: many crashes in a row, each within a Save of one more, and what is saved behind each of them.
func TestManyCrashes(t *testing.T) {
	for at := range 8 {
		for _, keep := range keeps {
			d := disk.New()
			l := chain(1, 12)
			what := fmt.Sprintf("crashes, each stopped at %d, %d kept", at, keep)
			for i := range l {
				d.Stop(at)
				Save(d, "book", l[:i+1])
				d.Crash(keep)
				if i%3 == 2 {
					must(t, Save(d, "book", l[:i]))
					d.Crash(keep)
				}
				got, there := look(t, what, d, "book")
				if i >= 2 && (!there || !hasAll(got, l[:i/3*3+1])) && i%3 == 2 {
					t.Fatalf("%s: behind Save %d: got %s", what, i, names(got))
				}
			}
			must(t, Save(d, "book", l))
			d.Crash(keep)
			wantBook(t, what, d, "book", l)
		}
	}
}

// K2: crashes without a stop lose nothing.
func TestCrashesWithoutStop(t *testing.T) {
	for _, keep := range keeps {
		d := disk.New()
		l := chain(1, 6)
		for i := range l {
			must(t, Save(d, "book", l[:i+1]))
			d.Crash(keep)
			wantBook(t, "saved and crashed", d, "book", l[:i+1])
			must(t, Compact(d, "book"))
			d.Crash(keep)
			wantBook(t, "compacted and crashed", d, "book", l[:i+1])
			d.Crash(keep)
			wantBook(t, "crashed again", d, "book", l[:i+1])
		}
		must(t, Delete(d, "book"))
		d.Crash(keep)
		wantNone(t, "deleted and crashed", d, "book")
	}
}

// K2: a file that is as full as it may be is as safe as others.
func TestMuchStops(t *testing.T) {
	l := sized(t, api.MaxBytes)
	for at := range 8 {
		for _, keep := range []int{-1, 0, 30_000, api.MaxBytes - 1, math.MaxInt} {
			d := diskOf(t, "book", l[:2])
			d.Crash(0)
			d.Stop(at)
			want := l[:2]
			if Save(d, "book", l) == nil {
				want = l
			}
			d.Crash(keep)
			got, _ := look(t, "much", d, "book")
			if !hasAll(got, want) || !hasAll(l, got) {
				t.Errorf("stopped at %d, %d kept: got %s", at, keep, names(got))
			}
			must(t, Save(d, "book", l))
			wantBook(t, "much, saved again", d, "book", l)
		}
	}
}
