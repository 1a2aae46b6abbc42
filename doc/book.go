package doc

import (
	"slices"

	"commonbook/api"
	"commonbook/dag"
)

// Book gives the hand's own book, and no copy, for those that say it over. Who lets it take something Rolls back first, because what is pending leans on what it has.
func (d *Doc) Book() *dag.Book { return d.book }

// Commit makes one change of what is pending.
func (d *Doc) Commit() (api.Ref, error) {
	if len(d.pending) == 0 {
		return api.Ref{}, api.ErrNone
	}
	next := d.next(d.book.All())
	// The book itself says ErrFull: of more than MaxDeps Heads, as these are the Deps, and of MaxChanges.
	if err := d.book.Take(next); err != nil {
		return api.Ref{}, err
	}
	d.pending = nil
	return refOf(next), nil
}

// Rollback forgets what is pending.
func (d *Doc) Rollback() int {
	many := len(d.pending)
	d.pending = nil
	return many
}

// RollbackTo forgets what is pending but for the first so many ops, for those that add several or none.
func (d *Doc) RollbackTo(many int) {
	d.pending = slices.Delete(d.pending, max(0, min(many, len(d.pending))), len(d.pending))
}

// Pending tells how many ops are.
func (d *Doc) Pending() int { return len(d.pending) }

// Take takes a change.
func (d *Doc) Take(c api.Change) error {
	if len(d.pending) > 0 {
		return api.ErrState
	}
	return d.book.Take(c)
}

// Merge takes all of another one's.
func (d *Doc) Merge(o *Doc) (int, error) {
	if len(d.pending) > 0 {
		return 0, api.ErrState
	}
	l := o.book.All()
	// Told ahead of taking: a change that waits here may come in with one on which it hangs.
	many := countOf(l, func(c api.Change) bool { return d.book.Has(refOf(c)) })
	for _, c := range l {
		if err := d.book.Take(c); err != nil {
			return 0, err
		}
	}
	return many, nil
}

// Fork makes another hand with the same book.
func (d *Doc) Fork(actor int) (*Doc, error) {
	f, err := New(actor)
	if err != nil {
		return nil, err
	}
	if actor == d.actor {
		return nil, api.ErrClash
	}
	for _, c := range d.book.All() {
		if c.Actor == actor {
			return nil, api.ErrClash
		}
		if err := f.Take(c); err != nil {
			return nil, err
		}
	}
	return f, nil
}

// All gives the book's changes.
func (d *Doc) All() []api.Change { return d.book.All() }

// Heads of the book.
func (d *Doc) Heads() []api.Ref { return d.book.Heads() }

// countOf tells how many changes there are, but for those that are left out.
func countOf(l []api.Change, isLeftOut func(api.Change) bool) int {
	many := 0
	for _, c := range l {
		if !isLeftOut(c) {
			many++
		}
	}
	return many
}

func refOf(c api.Change) api.Ref { return api.Ref{Actor: c.Actor, Seq: c.Seq} }
