package sync

import (
	"math/bits"
	"slices"

	"commonbook/api"
	"commonbook/bloom"
	"commonbook/dag"
	"commonbook/id"
)

const (
	// filterBytes for each change: of the refs that are not there one in some two hundred seems to be.
	filterBytes = 2

	placesOfRef = 3
)

// filterBits of a filter of so many changes; of none it has the fewest bits that a filter may have.
func filterBits(changes int) int { return max(8, 8*filterBytes*changes) }

// mayBeSaid tells whether all that a message says goes together. It asks what the message itself can tell, and not what the changes are that it leaves out.
func mayBeSaid(m Message) bool {
	return areHeads(m.Heads) && areHeads(m.Known) && knowsFit(m) && changesFit(m.Changes) && bookFits(m) && needFits(m)
}

// areHeads tells whether some book may have just these: of each actor no more than one, and with it all that this actor did before.
func areHeads(l []api.Ref) bool {
	return id.Refs(l) == nil && total(l) <= api.MaxChanges
}

// total is how many changes a book has at least that has these heads.
func total(l []api.Ref) (n int) {
	for _, r := range l {
		n += r.Seq
	}
	return n
}

// knowsFit tells whether no more is told than may be known: without the other side's heads nobody is content, and nothing is known to be left out.
func knowsFit(m Message) bool {
	if !m.Knows {
		return len(m.Known) == 0 && !m.Content && len(m.Changes) == 0
	}
	return !m.Content || slices.Equal(m.Known, m.Heads) && len(m.Need) == 0
}

// changesFit tells whether changes are some of a book's, each once and in its order.
func changesFit(l []api.Change) bool {
	book := dag.New()
	for i, c := range l {
		if book.Take(c) != nil || hangsOnOneOf(c, l[i:]) {
			return false
		}
	}
	had := slices.DeleteFunc(slices.Clone(l), func(c api.Change) bool { return !book.Has(refOf(c)) })
	// Where all that changes hang on is among them, the order is the same in every book.
	sameRef := func(a, b api.Change) bool { return refOf(a) == refOf(b) }
	return len(had)+len(book.Waiting()) == len(l) && slices.EqualFunc(had, book.All(), sameRef)
}

func hangsOnOneOf(c api.Change, l []api.Change) bool {
	return slices.ContainsFunc(l, func(other api.Change) bool { return slices.Contains(c.Deps, refOf(other)) })
}

// bookFits tells whether some book may have such Heads, Changes and Filter.
func bookFits(m Message) bool {
	size := bookSize(m)
	if filterBits(size) != 8*len(m.Filter) || size > 0 && len(m.Heads) == 0 {
		return false
	}
	there := clockOf(m)
	isNoHead := func(r api.Ref) bool { return !slices.Contains(there, r) || isHungOn(r, m.Changes) }
	return total(there) <= size && !slices.ContainsFunc(m.Heads, isNoHead) && filterFits(m.Filter, there, size)
}

// bookSize is how many changes a book has, as its filter tells.
func bookSize(m Message) int { return len(m.Filter) / filterBytes }

// clockOf has, of each actor, the last change that a message tells to be in its book.
func clockOf(m Message) []api.Ref {
	clock := m.Heads
	for _, c := range m.Changes {
		clock, _ = id.Join(clock, c.Deps)
		clock, _ = id.Join(clock, []api.Ref{refOf(c)})
	}
	return clock
}

func isHungOn(r api.Ref, l []api.Change) bool {
	return slices.ContainsFunc(l, func(c api.Change) bool { return slices.Contains(c.Deps, r) })
}

// filterFits tells whether a filter has all that is there, and no more than the other changes may have put into it.
func filterFits(filter []byte, there []api.Ref, size int) bool {
	var refs []api.Ref
	for _, r := range there {
		for i := range r.Seq {
			refs = append(refs, api.Ref{Actor: r.Actor, Seq: i + 1})
		}
	}
	least, _ := bloom.Make(refs, 8*len(filter))
	more := 0
	for i, n := range filter {
		if least[i]&^n != 0 {
			return false
		}
		more += bits.OnesCount8(n &^ least[i])
	}
	return more <= placesOfRef*(size-len(refs))
}

// needFits tells whether a book may miss just what is needed.
func needFits(m Message) bool {
	// A book that has nothing misses each of them, and tells them as they must stand.
	rising, err := dag.New().Missing(m.Need)
	if err != nil || !slices.Equal(rising, m.Need) {
		return false
	}
	there := clockOf(m)
	isThere := func(r api.Ref) bool {
		covers, _ := id.Covers(there, []api.Ref{r})
		return covers
	}
	return !slices.ContainsFunc(m.Need, isThere) && waitingFits(m)
}

// waitingFits tells whether there is room for the changes that must wait: those that are known and neither there nor needed, and those that hang on what is needed and not known.
func waitingFits(m Message) bool {
	waiting, hungOn := 0, 0
	for _, r := range m.Known {
		mayBeThere, _ := bloom.Has(m.Filter, r)
		if !mayBeThere && !slices.Contains(m.Need, r) {
			waiting++
		}
	}
	for _, r := range m.Need {
		if !slices.Contains(m.Known, r) {
			hungOn++
		}
	}
	room := api.MaxChanges - bookSize(m)
	return waiting <= room && hungOn <= room*api.MaxDeps
}
