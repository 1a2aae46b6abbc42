package doc

import (
	"commonbook/api"
	"commonbook/state"
)

// sight is what a hand sees: what the book has, and what is pending, as if it were in.
type sight struct {
	*state.Sum
	next api.Change // what is pending
	many int        // changes that the book has
}

func (d *Doc) look() sight {
	all := d.book.All()
	s := sight{Sum: state.NewSum(), next: d.next(all), many: len(all)}
	for _, c := range all {
		s.Add(c)
	}
	s.Add(s.next)
	return s
}

// next gives the change that is pending, behind all changes of the book.
func (d *Doc) next(all []api.Change) api.Change {
	next := api.Change{Actor: d.actor, Seq: 1, Start: 1, Deps: d.book.Heads(), Ops: d.pending}
	for _, c := range all {
		if c.Actor == d.actor {
			next.Seq = max(next.Seq, c.Seq+1)
		}
		// A change without ops has no number of an op, wherever it starts.
		if len(c.Ops) > 0 {
			next.Start = max(next.Start, c.Start+len(c.Ops))
		}
	}
	return next
}

// check tells whether an object is there, and of a kind.
func (s sight) check(obj api.Id, kind int) error {
	switch s.Kind(obj) {
	case kind:
		return nil
	case 0:
		return api.ErrNone
	}
	return api.ErrKind
}

// atKey gives the place of a key.
func (s sight) atKey(obj api.Id, key string) (state.Place, error) {
	if err := s.check(obj, api.Map); err != nil {
		return state.Place{}, err
	}
	if key == "" {
		return state.Place{}, api.ErrRange
	}
	return s.At(obj, key), nil
}

// atIndex gives the place of an element.
func (s sight) atIndex(obj api.Id, at int) (state.Place, error) {
	if err := s.check(obj, api.List); err != nil {
		return state.Place{}, err
	}
	l := s.Places(obj)
	if at < 0 || at >= len(l) {
		return state.Place{}, api.ErrRange
	}
	return l[at], nil
}

// behind gives a place that has nothing yet: its Elem is the one behind which an Insert at an index stands.
func (s sight) behind(obj api.Id, at int) (state.Place, error) {
	if err := s.check(obj, api.List); err != nil {
		return state.Place{}, err
	}
	l := s.Places(obj)
	if at < 0 || at > len(l) {
		return state.Place{}, api.ErrRange
	}
	p := state.Place{Obj: obj}
	if at > 0 {
		p.Elem = l[at-1].Elem
	}
	return p, nil
}
