package dag

import (
	"slices"

	"commonbook/api"
)

// known is an op that may be leant on.
type known struct {
	api.Op
	id api.Id
}

// fits tells whether a change, whose Deps are all there, goes with what it hangs on.
func (b *Book) fits(c api.Change) bool {
	past := b.behind(c.Deps)
	// Each change of an actor hangs on the one ahead, so the greatest Seq stands for all below it; of an actor without one it is 0.
	if lastSeq(past, c.Actor) != c.Seq-1 || lastNum(past) >= c.Start {
		return false
	}
	own := len(past)
	past = append(past, c)
	for i, op := range c.Ops {
		// The ops ahead are known as those of a change that ends with them.
		past[own].Ops = c.Ops[:i]
		if !opFits(op, past) {
			return false
		}
	}
	return true
}

func lastSeq(past []api.Change, actor int) int {
	last := 0
	for _, c := range past {
		if c.Actor == actor {
			last = max(last, c.Seq)
		}
	}
	return last
}

// lastNum is the greatest number of an op. A change without ops has none, whatever its Start.
func lastNum(past []api.Change) int {
	last := 0
	for _, c := range past {
		if len(c.Ops) > 0 {
			last = max(last, c.Start+len(c.Ops)-1)
		}
	}
	return last
}

func opFits(op api.Op, past []api.Change) bool {
	if !keyFits(op, past) || !elemFits(op, past) {
		return false
	}
	unfit := func(a api.Id) bool { return !predFits(op, lookUp(past, a)) }
	return !slices.ContainsFunc(op.Preds, unfit)
}

// keyFits tells whether an op's Obj is there, and is of the kind that the op is on.
func keyFits(op api.Op, past []api.Change) bool {
	switch objKind(op.Obj, past) {
	case api.Map:
		return op.Key != ""
	case api.List:
		return op.Key == ""
	}
	return false
}

// objKind is Map, List, or Nil of what no Make made.
func objKind(obj api.Id, past []api.Change) int {
	if isRoot(obj) {
		return api.Map
	}
	if made := lookUp(past, obj); made.Kind == api.Make {
		return made.Value.Kind
	}
	return api.Nil
}

func elemFits(op api.Op, past []api.Change) bool {
	if isRoot(op.Elem) {
		return true
	}
	at := lookUp(past, op.Elem)
	return at.Insert && at.Obj == op.Obj
}

// predFits tells whether an op may stand behind another one: both are of one place.
func predFits(op api.Op, pred known) bool {
	if op.Kind == api.Inc && !pred.isCount() {
		return false
	}
	return pred.hasValue() && pred.Obj == op.Obj && pred.Key == op.Key && pred.place() == op.Elem
}

func (k known) isCount() bool { return k.Kind == api.Put && k.Value.Kind == api.Count }

func (k known) hasValue() bool { return k.Kind == api.Put || k.Kind == api.Make }

// place is the element that an op is of: an Insert's Elem is the one that it comes behind, and its own id is what it makes.
func (k known) place() api.Id {
	if k.Insert {
		return k.id
	}
	return k.Elem
}

// lookUp gives the op with an id; one of no kind, that goes with nothing, if there is none.
func lookUp(past []api.Change, a api.Id) known {
	for _, c := range past {
		i := a.Num - c.Start
		if a.Actor == c.Actor && i >= 0 && i < len(c.Ops) {
			return known{Op: c.Ops[i], id: a}
		}
	}
	return known{}
}

func isRoot(a api.Id) bool { return a == api.Id{} }
