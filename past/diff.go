package past

import (
	"cmp"
	"slices"

	"commonbook/api"
)

// walk goes through two trees side by side, and gathers what makes the new one of the old one.
type walk struct {
	less []api.Patch // what goes or is set anew: none of these makes the tree greater; paths into the old tree
	more []api.Patch // what comes in: paths into the new tree
}

// patches gives those that make one tree of another; both are maps.
func patches(old, next api.Tree) []api.Patch {
	var w walk
	w.stays(old, next, nil, nil)
	// From the last on, so that what goes moves nothing that stands ahead of it, and a path into the old tree still leads there.
	slices.Reverse(w.less)
	// Behind all that goes, so that no tree on the way is greater than both; and from the first on, so that all that stands ahead is there.
	return append(w.less, w.more...)
}

// stays goes through a place that both trees have.
func (w *walk) stays(old, next api.Tree, from, to []api.Step) {
	if old.Value != next.Value {
		w.less = append(w.less, api.Patch{Kind: api.PatchSet, Path: from, Value: next.Value})
		old = api.Tree{Value: next.Value}
	}
	w.kids(old, next, from, to)
}

func (w *walk) goes(from []api.Step) {
	w.less = append(w.less, api.Patch{Kind: api.PatchGone, Path: from})
}

// comes goes through a place that the new tree alone has.
func (w *walk) comes(next api.Tree, to []api.Step) {
	kind := api.PatchInsert
	if to[len(to)-1].Key != "" {
		kind = api.PatchSet
	}
	w.more = append(w.more, api.Patch{Kind: kind, Path: to, Value: next.Value})
	w.kids(api.Tree{Value: next.Value}, next, nil, to)
}

// kids goes through those of two trees with one value.
func (w *walk) kids(old, next api.Tree, from, to []api.Step) {
	order := orderOf(old, next)
	i, j := 0, 0
	for i < len(old.Kids) || j < len(next.Kids) {
		switch side := order(i, j); {
		case side < 0:
			w.goes(longer(from, old, i))
			i++
		case side > 0:
			w.comes(next.Kids[j], longer(to, next, j))
			j++
		default:
			w.stays(old.Kids[i], next.Kids[j], longer(from, old, i), longer(to, next, j))
			i++
			j++
		}
	}
}

// longer gives a path with one step more, to a kid of the tree to which it leads.
func longer(path []api.Step, t api.Tree, i int) []api.Step {
	s := api.Step{At: i}
	if t.Value.Kind == api.Map {
		s = api.Step{Key: t.Keys[i]}
	}
	// Cut at its length, so that each longer path gets memory of its own.
	return append(path[:len(path):len(path)], s)
}

// orderOf tells of two trees with one value what is next, the kid i of the old one or the kid j of the new one: below 0 the old one, which goes; above 0 the new one, which comes; 0 both, which stand in one place.
func orderOf(old, next api.Tree) func(i, j int) int {
	if next.Value.Kind == api.Map {
		return mapOrder(old.Keys, next.Keys)
	}
	return listOrder(old.Kids, next.Kids)
}

func mapOrder(old, next []string) func(i, j int) int {
	return func(i, j int) int {
		switch {
		case i == len(old):
			return 1
		case j == len(next):
			return -1
		}
		return cmp.Compare(old[i], next[j])
	}
}

// listOrder takes kids for one such that as few as can be go, come, or become others.
func listOrder(old, next []api.Tree) func(i, j int) int {
	costs := listCosts(old, next)
	return func(i, j int) int {
		switch {
		case i == len(old):
			return 1
		case j == len(next):
			return -1
		case costs[i][j] == costs[i+1][j+1]+change(old[i], next[j]):
			return 0
		case costs[i][j] == costs[i+1][j]+1:
			return -1
		}
		return 1
	}
}

// listCosts gives, for each i and j, how many kids have to go, come or become others, at least, to make next[j:] of old[i:].
func listCosts(old, next []api.Tree) [][]int {
	costs := make([][]int, len(old)+1)
	for i := range costs {
		costs[i] = make([]int, len(next)+1)
		costs[i][len(next)] = len(old) - i
	}
	for j := range next {
		costs[len(old)][j] = len(next) - j
	}
	for i := len(old) - 1; i >= 0; i-- {
		for j := len(next) - 1; j >= 0; j-- {
			costs[i][j] = min(costs[i+1][j+1]+change(old[i], next[j]), costs[i+1][j]+1, costs[i][j+1]+1)
		}
	}
	return costs
}

// change is what it costs to make one tree of another in its place.
func change(old, next api.Tree) int {
	if same(old, next) {
		return 0
	}
	return 1
}

func same(a, b api.Tree) bool {
	return a.Value == b.Value && slices.Equal(a.Keys, b.Keys) && slices.EqualFunc(a.Kids, b.Kids, same)
}
