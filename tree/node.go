package tree

import "cmp"

// node is a thing, with the piece of the row that stands ahead of it and the one behind it.
type node struct {
	thing, wide int
	sides       [2]*node
	all         sum
}

// The sides of a node.
const (
	ahead  = 0
	behind = 1
)

// sum of a piece of the row: how many things, how wide they are, how many stand above each other.
type sum struct{ many, wide, high int }

// turn tells where to go on from a thing with that sum of all before it:
// below 0 ahead, above 0 behind, at 0 nowhere.
type turn func(n *node, before sum) int

// toIndex turns to the thing at an index.
func toIndex(at int) turn {
	return func(_ *node, before sum) int { return cmp.Compare(at, before.many) }
}

// toPlace turns to the thing in which a place lies.
func toPlace(place int) turn {
	return func(n *node, before sum) int {
		if place < before.wide {
			return -1
		}
		// A thing of width 0 ends where it begins, so no place is held in it.
		if place >= before.wide+n.wide {
			return 1
		}
		return 0
	}
}

// walk goes down from the top, as it is told, to a thing that is there, and sums up all before it.
func (r *Row) walk(where turn) (*node, sum) {
	var passed sum
	n := r.top
	for {
		r.work++
		side := r.look(n.sides[ahead])
		before := sum{many: passed.many + side.many, wide: passed.wide + side.wide}
		switch way := where(n, before); {
		case way < 0:
			n = n.sides[ahead]
		case way > 0:
			passed = sum{many: before.many + 1, wide: before.wide + n.wide}
			n = n.sides[behind]
		default:
			return n, before
		}
	}
}

// look at a piece, which may have nothing in it.
func (r *Row) look(n *node) sum {
	if n == nil {
		return sum{}
	}
	r.work++
	return n.all
}

// insert puts a new thing into a piece, and answers what is at its top then.
func (r *Row) insert(n *node, at int, fresh *node) *node {
	if n == nil {
		return r.level(fresh)
	}
	r.work++
	before := r.look(n.sides[ahead]).many
	if at <= before {
		n.sides[ahead] = r.insert(n.sides[ahead], at, fresh)
	} else {
		n.sides[behind] = r.insert(n.sides[behind], at-before-1, fresh)
	}
	return r.level(n)
}

// remove takes a thing out of a piece, and answers what is at its top then, and the thing.
func (r *Row) remove(n *node, at int) (rest, gone *node) {
	r.work++
	before := r.look(n.sides[ahead]).many
	switch {
	case at < before:
		n.sides[ahead], gone = r.remove(n.sides[ahead], at)
	case at > before:
		n.sides[behind], gone = r.remove(n.sides[behind], at-before-1)
	default:
		return r.join(n.sides), n
	}
	return r.level(n), gone
}

// join makes one piece of the two that stood around a thing.
func (r *Row) join(sides [2]*node) *node {
	if sides[behind] == nil {
		return sides[ahead]
	}
	rest, next := r.remove(sides[behind], 0)
	next.sides = [2]*node{sides[ahead], rest}
	return r.level(next)
}

// level sums a piece up anew; if one side has come to be higher than the other by two, it is made lower first.
func (r *Row) level(n *node) *node {
	high := [2]int{r.look(n.sides[ahead]).high, r.look(n.sides[behind]).high}
	for side := range high {
		if high[side] > high[1-side]+1 {
			r.straighten(n, side)
			return r.lift(n, side)
		}
	}
	r.add(n)
	return n
}

// straighten makes the outer half of a side no lower than its inner one:
// lifting the side leaves the inner half as low as it was.
func (r *Row) straighten(n *node, side int) {
	top, inner := n.sides[side], 1-side
	if r.look(top.sides[inner]).high > r.look(top.sides[side]).high {
		n.sides[side] = r.lift(top, inner)
	}
}

// lift puts the top of a side above the thing that was above it.
func (r *Row) lift(n *node, side int) *node {
	top, inner := n.sides[side], 1-side
	n.sides[side], top.sides[inner] = top.sides[inner], n
	r.add(n)
	r.add(top)
	return top
}

// add sums a piece up from its thing and its sides.
func (r *Row) add(n *node) {
	r.work++
	a, b := r.look(n.sides[ahead]), r.look(n.sides[behind])
	n.all = sum{
		many: a.many + 1 + b.many,
		wide: a.wide + n.wide + b.wide,
		high: 1 + max(a.high, b.high),
	}
}
