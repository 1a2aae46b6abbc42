package store

import (
	"fmt"
	"math/rand"
	"slices"
	"testing"

	"commonbook/api"
	"commonbook/disk"
	"commonbook/plain"
	"commonbook/state"
)

// known is what is known of a book from the calls alone.
type known struct {
	// given to Save since the last Delete that was done; safe since the last one that began.
	given, safe []api.Change
	saved       bool
	// gone tells that a Delete was done, and no Save began since (or ever).
	gone bool
}

// mixed gives changes that hang together in another order, in which each still stands behind those it hangs on.
func mixed(r *rand.Rand, l []api.Change) (out []api.Change) {
	for len(l) > 0 {
		i := r.Intn(len(l))
		next := append(slices.Clone(out), l[i])
		if _, err := state.Text(next); err == nil {
			out, l = next, slices.Delete(l, i, i+1)
		}
	}
	return out
}

// someChanges gives changes that hang together, or, now and then, that do not.
func someChanges(r *rand.Rand) []api.Change {
	pool := slices.Concat(family(), listed(), chain(7, 3))
	r.Shuffle(len(pool), func(i, k int) { pool[i], pool[k] = pool[k], pool[i] })
	l := inOrder(pool[:r.Intn(len(pool)+1)]...)
	if r.Intn(3) > 0 {
		l = mixed(r, l)
	}
	if len(l) > 0 && r.Intn(8) == 0 {
		i := r.Intn(len(l))
		switch r.Intn(3) {
		case 0:
			l = slices.Delete(l, i, i+1)
		case 1:
			l[i].Ops = append(l[i].Ops, api.Op{Kind: api.Put, Key: "x"})
		default:
			l = append(l, l[i])
		}
	}
	return l
}

// wantOf tells what Save has to say of l beside what is kept, a disk's errors left out.
func wantOf(before, l []api.Change) api.Errno {
	if _, err := state.Text(l); err != nil {
		return plain.Told(err)
	}
	all := slices.Clone(before)
	for _, c := range l {
		if !has(before, c) {
			all = append(all, c)
		}
	}
	_, err := state.Text(all)
	return plain.Told(err)
}

// player makes calls on a disk, and holds what they answer against what is known.
type player struct {
	*rand.Rand
	t     *testing.T
	d     *disk.Disk
	books map[string]*known
	said  []string
}

func (p *player) say(a ...any) { p.said = append(p.said, fmt.Sprint(a...)) }

func (p *player) fail(a ...any) {
	p.t.Helper()
	p.t.Fatal(fmt.Sprint(a...))
}

func (p *player) look(name string) ([]api.Change, bool) {
	p.t.Helper()
	return look(p.t, name, p.d, name)
}

func (p *player) save(name string) {
	k, l := p.books[name], someChanges(p.Rand)
	before, _ := p.look(name)
	was := whole(p.d)
	err := Save(p.d, name, l)
	p.say("Save ", name, " ", names(l), ": ", err)
	want := wantOf(before, l)
	if want != api.OK {
		if plain.Told(err) != want || whole(p.d) != was {
			p.fail("Save should have told ", want, " and changed nothing")
		}
		return
	}
	k.given, k.gone = append(k.given, l...), false
	if err == nil {
		k.safe, k.saved = inOrder(append(before, l...)...), true
		wantBook(p.t, "saved", p.d, name, k.safe)
	} else if plain.Told(err) != api.ErrState {
		p.fail("Save told ", err)
	}
}

func (p *player) compact(name string) {
	before, there := p.look(name)
	err := Compact(p.d, name)
	p.say("Compact ", name, ": ", err)
	if told := plain.Told(err); there == (told == api.ErrNone) || told != api.OK && told != api.ErrNone && told != api.ErrState {
		p.fail("Compact told ", err)
	}
	if after, still := p.look(name); still != there || !same(before, after) {
		p.fail("Compact made ", names(after), " of ", names(before))
	}
}

func (p *player) delete(name string) {
	k := p.books[name]
	_, there := p.look(name)
	err := Delete(p.d, name)
	p.say("Delete ", name, ": ", err)
	if told := plain.Told(err); there == (told == api.ErrNone) || told != api.OK && told != api.ErrNone && told != api.ErrState {
		p.fail("Delete told ", err)
	}
	if there {
		k.safe, k.saved = nil, false
	}
	if err == nil {
		*k = known{gone: true}
	}
}

func (p *player) turn() {
	name := []string{"a", "book", "zzzzzz"}[p.Intn(3)]
	switch p.Intn(9) {
	case 0:
		p.delete(name)
	case 1:
		p.compact(name)
	case 2:
		at := p.d.Steps() + p.Intn(9)
		p.say("Stop ", at)
		p.d.Stop(at)
	case 3:
		p.say("Stop -1")
		p.d.Stop(-1)
	case 4:
		keep := keeps[p.Intn(len(keeps))]
		p.say("Crash ", keep)
		p.d.Crash(keep)
	default:
		p.save(name)
	}
}

// check holds what is kept against what is known of each book.
func (p *player) check() {
	for name, k := range p.books {
		got, there := p.look(name)
		switch {
		case k.gone && there:
			p.fail(name, " was deleted, and has ", names(got))
		case k.saved && !there:
			p.fail(name, " was saved, and is not there")
		case !hasAll(got, k.safe):
			p.fail(name, " has ", names(got), ", and not all of ", names(k.safe))
		case !hasAll(k.given, got):
			p.fail(name, " has ", names(got), ", and was given ", names(k.given))
		}
	}
}

// play makes some calls, and says which they were if they should not have gone so.
func (p *player) play() {
	defer func() {
		if p.t.Failed() {
			p.t.Logf("%q", p.said)
		}
	}()
	for _, name := range []string{"a", "book", "zzzzzz"} {
		p.books[name] = &known{gone: true}
	}
	for range 40 {
		p.turn()
		p.check()
	}
}

// TestRandom: K1 and K2, whatever is called, wherever the disk stops.
func TestRandom(t *testing.T) {
	for seed := range 150 {
		t.Run(fmt.Sprint("seed ", seed), func(t *testing.T) {
			p := &player{Rand: rand.New(rand.NewSource(int64(seed))), t: t, d: disk.New(), books: map[string]*known{}}
			p.play()
		})
	}
}
