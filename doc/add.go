package doc

import (
	"commonbook/api"
	"commonbook/state"
	"commonbook/value"
)

// addAtKey adds an op at a key of a map.
func (d *Doc) addAtKey(obj api.Id, key string, op api.Op) (api.Id, error) {
	s := d.look()
	p, err := s.atKey(obj, key)
	if err != nil {
		return api.Id{}, err
	}
	if len(key) > api.MaxKey {
		return api.Id{}, api.ErrFull
	}
	return d.add(s, p, op)
}

// addAtIndex adds an op at an element of a list.
func (d *Doc) addAtIndex(obj api.Id, at int, op api.Op) error {
	s := d.look()
	p, err := s.atIndex(obj, at)
	if err != nil {
		return err
	}
	_, err = d.add(s, p, op)
	return err
}

// addInsert adds an op that makes a new element of a list.
func (d *Doc) addInsert(obj api.Id, at int, op api.Op) (api.Id, error) {
	s := d.look()
	p, err := s.behind(obj, at)
	if err != nil {
		return api.Id{}, err
	}
	op.Insert = true
	return d.add(s, p, op)
}

// add lets an op be pending at a place, and gives its id.
func (d *Doc) add(s sight, p state.Place, op api.Op) (api.Id, error) {
	op.Obj, op.Key, op.Elem = p.Obj, p.Key, p.Elem
	op.Preds = preds(p, func(v api.Value) bool { return op.Kind == api.Inc && v.Kind != api.Count })
	if err := checkOp(op); err != nil {
		return api.Id{}, err
	}
	a := api.Id{Num: s.next.Start + len(d.pending), Actor: d.actor}
	if s.isFull() || len(p.Ids) > api.MaxDeps || a.Num > api.MaxNum {
		return api.Id{}, api.ErrFull
	}
	d.pending = append(d.pending, op)
	return a, nil
}

// preds gives the ids of a place's values, but of those that are left out, rising.
func preds(p state.Place, isLeftOut func(api.Value) bool) []api.Id {
	var l []api.Id
	for i := len(p.Ids) - 1; i >= 0; i-- {
		if !isLeftOut(p.All[i]) {
			l = append(l, p.Ids[i])
		}
	}
	return l
}

// checkOp tells what is wrong with what an op says at its place.
func checkOp(op api.Op) error {
	switch {
	case op.Kind == api.Put && (value.Check(op.Value) != nil || isObject(op.Value.Kind)):
		return api.ErrRange
	case op.Kind == api.Make && !isObject(op.Value.Kind):
		return api.ErrRange
	case op.Kind == api.Del && len(op.Preds) == 0:
		return api.ErrNone
	case op.Kind == api.Inc && len(op.Preds) == 0:
		return api.ErrKind
	}
	return nil
}

func isObject(kind int) bool { return kind == api.Map || kind == api.List }

// isFull tells whether not one op more can be pending, wherever.
func (s sight) isFull() bool {
	return len(s.next.Ops) >= api.MaxOps || s.many >= api.MaxChanges
}
