package json

import (
	"slices"

	"commonbook/api"
)

// Apply does patches, one after the other.
func Apply(t api.Tree, p []api.Patch) (api.Tree, error) {
	if err := Check(t); err != nil {
		return api.Tree{}, err
	}
	t = copyOf(t)
	for _, one := range p {
		if err := apply(&t, one); err != nil {
			return api.Tree{}, err
		}
	}
	return t, nil
}

// apply does a patch to a tree that shares no list with another. With an error the tree may be spoilt.
func apply(t *api.Tree, p api.Patch) error {
	if !isPatch(p) {
		return api.ErrRange
	}
	if !change(t, p) {
		return api.ErrNone
	}
	if isFull(*t) {
		return api.ErrFull
	}
	return nil
}

func isPatch(p api.Patch) bool {
	isTooLong := func(s api.Step) bool { return len(s.Key) > api.MaxKey }
	return p.Kind >= api.PatchSet && p.Kind <= api.PatchInsert && isValue(p.Value) && !slices.ContainsFunc(p.Path, isTooLong)
}

// change does a patch, if there is such a place.
func change(t *api.Tree, p api.Patch) bool {
	last := len(p.Path) - 1
	if last < 0 {
		return false
	}
	t = follow(t, p.Path[:last])
	if t == nil {
		return false
	}
	switch p.Kind {
	case api.PatchSet:
		return set(t, p.Path[last], p.Value)
	case api.PatchGone:
		return remove(t, p.Path[last])
	}
	return insert(t, p.Path[last], p.Value)
}

func set(t *api.Tree, s api.Step, v api.Value) bool {
	i, ok := find(*t, s)
	if ok {
		t.Kids[i] = api.Tree{Value: v}
		return true
	}
	if !isKeyOf(*t, s) {
		return false
	}
	t.Keys = slices.Insert(t.Keys, i, s.Key)
	t.Kids = slices.Insert(t.Kids, i, api.Tree{Value: v})
	return true
}

func remove(t *api.Tree, s api.Step) bool {
	i, ok := find(*t, s)
	if !ok {
		return false
	}
	if isKeyOf(*t, s) {
		t.Keys = slices.Delete(t.Keys, i, i+1)
	}
	t.Kids = slices.Delete(t.Kids, i, i+1)
	return true
}

func insert(t *api.Tree, s api.Step, v api.Value) bool {
	if !isIndexOf(*t, s) {
		return false
	}
	t.Kids = slices.Insert(t.Kids, s.At, api.Tree{Value: v})
	return true
}
