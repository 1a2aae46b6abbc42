// Package id tells who did what, and what was known.
package id

import (
	"maps"
	"slices"
	"strconv"
	"strings"

	"commonbook/api"
)

const rootName = "root"

// Check tells whether an id is one.
func Check(a api.Id) error {
	if isRoot(a) || isNum(a.Num) && isActor(a.Actor) {
		return nil
	}
	return api.ErrRange
}

// Less tells whether an id is ahead of another one.
func Less(a, b api.Id) bool {
	if a.Num != b.Num {
		return a.Num < b.Num
	}
	return a.Actor < b.Actor
}

// Name of an id.
func Name(a api.Id) string {
	if Check(a) != nil {
		return ""
	}
	if isRoot(a) {
		return rootName
	}
	return strconv.Itoa(a.Num) + "@" + strconv.Itoa(a.Actor)
}

// Parse reads a name.
func Parse(text string) (api.Id, error) {
	if text == rootName {
		return api.Id{}, nil
	}
	num, actor, _ := strings.Cut(text, "@")
	a := api.Id{Num: number(num), Actor: number(actor)}
	// Only what Name writes is a name: this refuses signs, needless noughts and numbers out of range at once.
	if Name(a) != text {
		return api.Id{}, api.ErrSyntax
	}
	return a, nil
}

// Refs tells what is wrong with a clock.
func Refs(l []api.Ref) error {
	// Two rounds, because a number that is none is told ahead of any order, wherever it stands.
	for _, r := range l {
		if !isActor(r.Actor) || !isNum(r.Seq) {
			return api.ErrRange
		}
	}
	for i := 1; i < len(l); i++ {
		if l[i-1].Actor >= l[i].Actor {
			return api.ErrOrder
		}
	}
	return nil
}

// Join takes the greater of both.
func Join(a, b []api.Ref) ([]api.Ref, error) {
	if err := bothRefs(a, b); err != nil {
		return nil, err
	}
	known := seqs(a)
	for _, r := range b {
		known[r.Actor] = max(known[r.Actor], r.Seq)
	}
	return clock(known), nil
}

// Covers tells whether one knows all the other one does.
func Covers(a, b []api.Ref) (bool, error) {
	if err := bothRefs(a, b); err != nil {
		return false, err
	}
	known := seqs(a)
	leftOut := func(r api.Ref) bool { return known[r.Actor] < r.Seq }
	return !slices.ContainsFunc(b, leftOut), nil
}

func isRoot(a api.Id) bool { return a == api.Id{} }

func isNum(n int) bool { return n >= 1 && n <= api.MaxNum }

func isActor(n int) bool { return n >= 1 && n <= api.MaxActor }

// number gives 0 for what is none: no id but the root has a 0, and its name has no digits.
func number(digits string) int {
	n, err := strconv.Atoi(digits)
	if err != nil {
		return 0
	}
	return n
}

func bothRefs(a, b []api.Ref) error {
	if err := Refs(a); err != nil {
		return err
	}
	return Refs(b)
}

// seqs has 0 of an actor of whom nothing is known, which is below every Seq.
func seqs(l []api.Ref) map[int]int {
	known := map[int]int{}
	for _, r := range l {
		known[r.Actor] = r.Seq
	}
	return known
}

func clock(known map[int]int) []api.Ref {
	var l []api.Ref
	for _, actor := range slices.Sorted(maps.Keys(known)) {
		l = append(l, api.Ref{Actor: actor, Seq: known[actor]})
	}
	return l
}
