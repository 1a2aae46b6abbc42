package state

import (
	"cmp"
	"maps"
	"slices"
	"strings"

	"commonbook/api"
	"commonbook/change"
	"commonbook/id"
	"commonbook/value"
)

// spot is where a place is: a key of a map, or an element of a list.
type spot struct {
	obj  api.Id
	key  string
	elem api.Id
}

// Sum is what comes of changes, each added behind those it hangs on, and such that a book takes it there.
type Sum struct {
	has    map[api.Id]api.Value // what each Put and Make has that is not over
	kinds  map[api.Id]int       // Map or List, of each object
	keys   map[api.Id][]spot    // of each map those at which something was said
	said   map[spot][]api.Id    // Puts and Makes, also those that are over
	behind map[spot][]api.Id    // Inserts behind an element, or at the head
}

// NewSum is what comes of no changes.
func NewSum() *Sum {
	return &Sum{
		has:    map[api.Id]api.Value{},
		kinds:  map[api.Id]int{{}: api.Map},
		keys:   map[api.Id][]spot{},
		said:   map[spot][]api.Id{},
		behind: map[spot][]api.Id{},
	}
}

// Add adds a change.
func (s *Sum) Add(c api.Change) {
	for i, a := range change.Ids(c) {
		s.addOp(a, c.Ops[i])
	}
}

func (s *Sum) addOp(a api.Id, op api.Op) {
	switch op.Kind {
	case api.Inc:
		s.increase(op)
	case api.Del:
		s.end(op.Preds)
	default:
		s.end(op.Preds)
		s.say(a, op)
	}
}

// end takes away what is over. It has all been said: an op hangs on its Preds.
func (s *Sum) end(preds []api.Id) {
	for _, a := range preds {
		delete(s.has, a)
	}
}

// increase adds to Counts. One that is not there any more is over, and nothing brings it back.
func (s *Sum) increase(op api.Op) {
	for _, a := range op.Preds {
		if v, ok := s.has[a]; ok {
			v.Num += op.Value.Num
			s.has[a] = v
		}
	}
}

// say adds what a Put or Make says.
func (s *Sum) say(a api.Id, op api.Op) {
	at := spot{obj: op.Obj, key: op.Key, elem: op.Elem}
	if op.Insert {
		s.behind[at] = append(s.behind[at], a)
		at.elem = a
	}
	if at.key != "" && len(s.said[at]) == 0 {
		s.keys[op.Obj] = append(s.keys[op.Obj], at)
	}
	s.said[at] = append(s.said[at], a)
	v := op.Value
	if op.Kind == api.Make {
		v.Obj = a
		s.kinds[a] = v.Kind
	}
	s.has[a] = v
}

// Kind of an object: Map or List; 0, if there is none such.
func (s *Sum) Kind(obj api.Id) int { return s.kinds[obj] }

// Text of the root.
func (s *Sum) Text() string {
	var text strings.Builder
	s.write(&text, rootMap())
	return text.String()
}

// At gives the place of a key, also one that has nothing.
func (s *Sum) At(obj api.Id, key string) Place { return s.place(spot{obj: obj, key: key}) }

// objects gives the root and all that were made, rising.
func (s *Sum) objects() []api.Id {
	return slices.SortedFunc(maps.Keys(s.kinds), compareIds)
}

// Places gives those of an object that have values, in their order.
func (s *Sum) Places(obj api.Id) []Place {
	var l []Place
	for _, at := range s.inOrder(obj) {
		if p := s.place(at); len(p.Ids) > 0 {
			l = append(l, p)
		}
	}
	return l
}

// inOrder gives the spots of an object: of a map by key, of a list as its elements stand.
func (s *Sum) inOrder(obj api.Id) []spot {
	if s.kinds[obj] == api.Map {
		byKey := func(a, b spot) int { return cmp.Compare(a.key, b.key) }
		return slices.SortedFunc(slices.Values(s.keys[obj]), byKey)
	}
	var l []spot
	for _, a := range s.Elements(obj) {
		l = append(l, spot{obj: obj, elem: a})
	}
	return l
}

// Elements gives all Inserts into a list, each with those that stand behind it.
func (s *Sum) Elements(list api.Id) []api.Id {
	var l []api.Id
	var walk func(elem api.Id)
	walk = func(elem api.Id) {
		for _, a := range falling(s.behind[spot{obj: list, elem: elem}]) {
			l = append(l, a)
			walk(a)
		}
	}
	walk(api.Id{})
	return l
}

// place gives a spot with what it has.
func (s *Sum) place(at spot) Place {
	isOver := func(a api.Id) bool {
		_, ok := s.has[a]
		return !ok
	}
	p := Place{Obj: at.obj, Key: at.key, Elem: at.elem}
	p.Ids = slices.DeleteFunc(falling(s.said[at]), isOver)
	for _, a := range p.Ids {
		p.All = append(p.All, s.has[a])
	}
	return p
}

// write writes the text of a value, with all that is in it.
func (s *Sum) write(text *strings.Builder, v api.Value) {
	switch v.Kind {
	case api.Map:
		text.WriteString("{")
		s.writePlaces(text, v.Obj)
		text.WriteString("}")
	case api.List:
		text.WriteString("[")
		s.writePlaces(text, v.Obj)
		text.WriteString("]")
	default:
		text.WriteString(value.Show(v))
	}
}

func (s *Sum) writePlaces(text *strings.Builder, obj api.Id) {
	for i, p := range s.Places(obj) {
		if i > 0 {
			text.WriteString(",")
		}
		if s.kinds[obj] == api.Map {
			text.WriteString(value.Quote(p.Key))
			text.WriteString(":")
		}
		s.write(text, p.All[0])
	}
}

// falling gives a list of its own.
func falling(l []api.Id) []api.Id {
	l = append([]api.Id(nil), l...)
	slices.SortFunc(l, func(a, b api.Id) int { return compareIds(b, a) })
	return l
}

func compareIds(a, b api.Id) int {
	switch {
	case id.Less(a, b):
		return -1
	case id.Less(b, a):
		return 1
	}
	return 0
}
