package disk

import (
	"fmt"
	"math/rand"
	"slices"
	"strings"
	"testing"

	"commonbook/api"
	"commonbook/plain"
)

// deed is a step that was done: which call, of what.
type deed struct {
	call     string
	from, to string
	bytes    string
}

// history tells what a disk is from all that was done on it, and keeps nothing else: each answer goes through all of it from the beginning.
type history struct {
	deeds []deed
	// begin has the files that the last crash left, as NAME=BYTES.
	begin []string
	stop  int
}

// names tells which file each name is after so many deeds: files are numbered, those of the beginning first.
func (h *history) names(deeds int) map[string]int {
	m := map[string]int{}
	for i, f := range h.begin {
		name, _, _ := strings.Cut(f, "=")
		m[name] = i
	}
	for i, x := range h.deeds[:deeds] {
		switch x.call {
		case "Create":
			m[x.from] = len(h.begin) + i
		case "Rename":
			f := m[x.from]
			delete(m, x.from)
			m[x.to] = f
		case "Remove":
			delete(m, x.from)
		}
	}
	return m
}

// bytes of a file, and how many of them are safe.
func (h *history) bytes(f int) (b string, safe int) {
	if f < len(h.begin) {
		_, b, _ = strings.Cut(h.begin[f], "=")
		safe = len(b)
	}
	for i, x := range h.deeds {
		if x.call != "Append" && x.call != "Sync" || h.names(i)[x.from] != f {
			continue
		}
		b += x.bytes
		if x.call == "Sync" {
			safe = len(b)
		}
	}
	return b, safe
}

// look gives what files there are, as NAME=BYTES.
func (h *history) look() (l []string) {
	for name, f := range h.names(len(h.deeds)) {
		b, _ := h.bytes(f)
		l = append(l, name+"="+b)
	}
	slices.Sort(l)
	return l
}

func (h *history) crash(keep int) {
	last := 0
	for i, x := range h.deeds {
		if x.call == "SyncNames" {
			last = i
		}
	}
	var left []string
	for name, f := range h.names(last) {
		b, safe := h.bytes(f)
		rest := b[safe:]
		if keep < len(rest) {
			rest = rest[:max(keep, 0)]
		}
		left = append(left, name+"="+b[:safe]+rest)
	}
	slices.Sort(left)
	*h = history{begin: left, stop: -1}
}

// do tells what a call answers, and does it if nothing is wrong.
func (h *history) do(x deed) api.Errno {
	names := h.names(len(h.deeds))
	f, there := names[x.from]
	b, _ := h.bytes(f)
	switch {
	case h.stop >= 0 && len(h.deeds) >= h.stop:
		return api.ErrState
	case x.call == "SyncNames":
	case strings.ContainsAny(x.from+x.to, "A"), x.from == "", x.call == "Rename" && x.to == "":
		return api.ErrSyntax
	case x.call == "Create" && there:
		return api.ErrClash
	case x.call != "Create" && !there:
		return api.ErrNone
	case len(b)+len(x.bytes) > api.MaxBytes:
		return api.ErrFull
	}
	h.deeds = append(h.deeds, x)
	return api.OK
}

func call(d *Disk, x deed) error {
	switch x.call {
	case "Create":
		return d.Create(x.from)
	case "Append":
		return d.Append(x.from, []byte(x.bytes))
	case "Sync":
		return d.Sync(x.from)
	case "SyncNames":
		return d.SyncNames()
	case "Rename":
		return d.Rename(x.from, x.to)
	}
	return d.Remove(x.from)
}

func someDeed(r *rand.Rand) deed {
	names := []string{"a", "a", "b", "b", "c.9", "c.9", "a", "b", "", "A"}
	x := deed{from: names[r.Intn(len(names))]}
	x.call = []string{"Create", "Create", "Append", "Append", "Append", "Sync", "SyncNames", "Rename", "Rename", "Remove"}[r.Intn(10)]
	switch x.call {
	case "Append":
		x.bytes = "uvwxyz"[:r.Intn(7)]
		if r.Intn(30) == 0 {
			x.bytes = strings.Repeat("m", api.MaxBytes-r.Intn(8))
		}
	case "Rename":
		x.to = names[r.Intn(len(names))]
	case "SyncNames":
		x.from = ""
	}
	return x
}

// TestRandom holds disks against their histories.
func TestRandom(t *testing.T) {
	for seed := range 1500 {
		r := rand.New(rand.NewSource(int64(seed)))
		d, h := New(), &history{stop: -1}
		for step := range 40 {
			what := ""
			switch r.Intn(14) {
			case 0:
				keep := r.Intn(9) - 1
				what = fmt.Sprint("Crash ", keep)
				d.Crash(keep)
				h.crash(keep)
			case 1:
				at := r.Intn(12) - 1
				what = fmt.Sprint("Stop ", at)
				d.Stop(at)
				h.stop = at
			default:
				x := someDeed(r)
				what = fmt.Sprintf("%s %q %q, %d bytes", x.call, x.from, x.to, len(x.bytes))
				want, err := h.do(x), call(d, x)
				if want == api.OK && err != nil || want != api.OK && plain.Told(err) != want {
					t.Fatalf("seed %d, step %d: %s: got %v, want %v", seed, step, what, err, want)
				}
			}
			if got, want := look(d), strings.Join(h.look(), " "); got != want {
				t.Fatalf("seed %d, step %d: %s: got %.200q, want %.200q", seed, step, what, got, want)
			}
			if d.Steps() != len(h.deeds) {
				t.Fatalf("seed %d, step %d: %s: Steps %d, want %d", seed, step, what, d.Steps(), len(h.deeds))
			}
		}
	}
}
