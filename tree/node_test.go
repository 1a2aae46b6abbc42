package tree

import (
	"slices"
	"testing"

	"commonbook/api"
)

// sound tells if each piece is summed up, and its sides are nearly of one height.
func sound(n *node) bool {
	if n == nil {
		return true
	}
	var a, b sum
	if n.sides[ahead] != nil {
		a = n.sides[ahead].all
	}
	if n.sides[behind] != nil {
		b = n.sides[behind].all
	}
	all := sum{a.many + 1 + b.many, a.wide + n.wide + b.wide, 1 + max(a.high, b.high)}
	return n.all == all && a.high-b.high <= 1 && b.high-a.high <= 1 && sound(n.sides[ahead]) && sound(n.sides[behind])
}

// thin makes a tree of that height with as few things as may be: at each thing the side is one lower than the other.
func thin(r *Row, high, side int) *node {
	if high <= 0 {
		return nil
	}
	n := &node{thing: high, wide: high % 3}
	n.sides[side], n.sides[1-side] = thin(r, high-2, side), thin(r, high-1, side)
	r.add(n)
	return n
}

// list of all things in a tree.
func list(n *node) []item {
	if n == nil {
		return nil
	}
	return append(append(list(n.sides[ahead]), item{n.thing, n.wide}), list(n.sides[behind])...)
}

// TestThin: on the highest trees that there may be, calls stay within the bound at each index.
func TestThin(t *testing.T) {
	for high := 1; high <= 14; high++ {
		for side := range 2 {
			l := list(thin(New(), high, side))
			for at := range l {
				r := New()
				r.top = thin(r, high, side)
				r.Work()
				told(t, "Insert", r.Insert(at, 1, 1), api.OK)
				light(t, r, "Insert", len(l))
				told(t, "Set", r.Set(at+1, 4), api.OK)
				light(t, r, "Set", len(l)+1)
				if !sound(r.top) {
					t.Fatalf("height %d, side %d: Insert(%d) leaves sides of unlike height", high, side, at)
				}
				r.top = thin(r, high, side)
				r.Work()
				thing, wide, err := r.Remove(at)
				if (item{thing, wide}) != l[at] || err != nil {
					t.Fatalf("height %d, side %d: Remove(%d): %d %d %v", high, side, at, thing, wide, err)
				}
				light(t, r, "Remove", len(l)-1)
				if !sound(r.top) || !slices.Equal(list(r.top), slices.Delete(slices.Clone(l), at, at+1)) {
					t.Fatalf("height %d, side %d: Remove(%d) leaves another row, or sides of unlike height", high, side, at)
				}
			}
		}
	}
}

// TestWorkCountsPieces: of three things the middle one is found by it and the piece ahead of it;
// each of the others by these two, and by itself.
func TestWorkCountsPieces(t *testing.T) {
	r := row(t, 1, 1, 1)
	r.Work()
	for at, want := range []int{3, 2, 3} {
		r.Get(at)
		if w := r.Work(); w != want {
			t.Errorf("Work of Get(%d): %d, want %d", at, w, want)
		}
	}
}
