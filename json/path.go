package json

import (
	"slices"

	"commonbook/api"
)

// Get gives the tree at the end of a path.
func Get(t api.Tree, path []api.Step) (api.Tree, error) {
	if err := Check(t); err != nil {
		return api.Tree{}, err
	}
	there := follow(&t, path)
	if there == nil {
		return api.Tree{}, api.ErrNone
	}
	return copyOf(*there), nil
}

// Paths gives all trees with a value.
func Paths(t api.Tree, v api.Value) ([][]api.Step, error) {
	if err := Check(t); err != nil {
		return nil, err
	}
	if !isValue(v) {
		return nil, api.ErrRange
	}
	var l [][]api.Step
	var walk func(t api.Tree, path []api.Step)
	walk = func(t api.Tree, path []api.Step) {
		if t.Value == v {
			l = append(l, path)
		}
		for i := range t.Kids {
			// Cut at its length, so that each longer path gets memory of its own.
			walk(t.Kids[i], append(path[:len(path):len(path)], stepTo(t, i)))
		}
	}
	walk(t, nil)
	return l, nil
}

// follow gives the tree at the end of a path, as it stands in t; nil, if there is none.
func follow(t *api.Tree, path []api.Step) *api.Tree {
	for _, s := range path {
		i, ok := find(*t, s)
		if !ok {
			return nil
		}
		t = &t.Kids[i]
	}
	return t
}

// find gives the index of the kid to which a step leads; of a key that is not there, the index that it would have.
func find(t api.Tree, s api.Step) (int, bool) {
	switch {
	case isKeyOf(t, s):
		return slices.BinarySearch(t.Keys, s.Key)
	case isIndexOf(t, s):
		return s.At, s.At < len(t.Kids)
	}
	return 0, false
}

// isKeyOf tells whether a step is a key that a tree has, or could have.
func isKeyOf(t api.Tree, s api.Step) bool {
	return t.Value.Kind == api.Map && s.Key != "" && s.At == 0
}

// isIndexOf tells whether a step is an index of a list, or of what would come in behind its last kid.
func isIndexOf(t api.Tree, s api.Step) bool {
	return t.Value.Kind == api.List && s.Key == "" && s.At >= 0 && s.At <= len(t.Kids)
}

func stepTo(t api.Tree, i int) api.Step {
	if t.Value.Kind == api.Map {
		return api.Step{Key: t.Keys[i]}
	}
	return api.Step{At: i}
}
