package pool

import (
	"fmt"
	"math/rand"
	"reflect"
	"slices"
	"strconv"
	"testing"

	"commonbook/api"
	"commonbook/doc"
	"commonbook/plain"
	"commonbook/state"
)

// mayBeNext tells the places in rest of changes that hang on nothing but what was told.
func mayBeNext(rest, told []api.Change) (l []int) {
	for i, c := range rest {
		left := func(r api.Ref) bool { return !slices.Contains(refsOf(told), r) }
		if !slices.ContainsFunc(c.Deps, left) {
			l = append(l, i)
		}
	}
	return l
}

// ordered is a book's changes by the words of All: always the first by Ref of those that may be next.
func ordered(l []api.Change) (out []api.Change) {
	rest := slices.Clone(l)
	for len(rest) > 0 {
		next := slices.MinFunc(mayBeNext(rest, out), func(a, b int) int { return compareRefs(refOf(rest[a]), refOf(rest[b])) })
		out = append(out, rest[next])
		rest = slices.Delete(rest, next, next+1)
	}
	return out
}

// shuffled is a book's changes in any order in which a Book takes them one after the other.
func shuffled(rnd *rand.Rand, l []api.Change) (out []api.Change) {
	rest := slices.Clone(l)
	for len(rest) > 0 {
		may := mayBeNext(rest, out)
		next := may[rnd.Intn(len(may))]
		out = append(out, rest[next])
		rest = slices.Delete(rest, next, next+1)
	}
	return out
}

// closed is some changes of l, and all that they hang on.
func closed(l []api.Change, wanted func() bool) (out []api.Change) {
	in := map[api.Ref]bool{}
	for _, c := range slices.Backward(ordered(l)) {
		if !in[refOf(c)] && !wanted() {
			continue
		}
		out = append(out, c)
		for _, r := range c.Deps {
			in[r] = true
		}
	}
	slices.Reverse(out)
	return out
}

// slowUnion is Union by the words of the chapter, of books that are some.
func slowUnion(l books) ([]api.Change, api.Errno) {
	var all []api.Change
	for _, book := range l {
		for _, c := range ordered(book) {
			at := slices.Index(refsOf(all), refOf(c))
			switch {
			case at >= 0 && !reflect.DeepEqual(plainly(all[at:at+1]), plainly([]api.Change{c})):
				return nil, api.ErrClash
			case at < 0 && len(all) == api.MaxChanges:
				return nil, api.ErrFull
			case at < 0:
				all = append(all, c)
			}
		}
	}
	return ordered(all), api.OK
}

// slowCommon is Common by the words of the chapter, of books that are some.
func slowCommon(l books) (out []api.Ref) {
	if len(l) == 0 {
		return nil
	}
	for _, r := range refsOf(l[0]) {
		many := 0
		for _, book := range l {
			many += len(slices.DeleteFunc(refsOf(book), func(o api.Ref) bool { return o != r }))
		}
		if many == len(l) {
			out = append(out, r)
		}
	}
	slices.SortFunc(out, compareRefs)
	return out
}

// written is changes of several hands that at times merge with each other.
func written(t testing.TB, rnd *rand.Rand, many int) []api.Change {
	t.Helper()
	first := hand(t, 1)
	_, err := first.Make(root, "l", api.List)
	must(t, err)
	_, err = first.Commit()
	must(t, err)
	hands := []*doc.Doc{first}
	for actor := 2; actor <= 2+rnd.Intn(4); actor++ {
		hands = append(hands, fork(t, first, actor))
	}
	for range many {
		d := hands[rnd.Intn(len(hands))]
		if rnd.Intn(3) == 0 {
			merge(t, d, hands[rnd.Intn(len(hands))])
		}
		if rnd.Intn(2) == 0 {
			put(t, d, "k"+strconv.Itoa(rnd.Intn(3)), rnd.Intn(100))
			continue
		}
		must(t, d.Insert(api.Id{Num: 1, Actor: 1}, 0, number(rnd.Intn(100))))
		_, err := d.Commit()
		must(t, err)
	}
	for _, d := range hands[1:] {
		merge(t, first, d)
	}
	return first.All()
}

// booksOf is books of parts of one or two worlds of changes, in any order.
func booksOf(rnd *rand.Rand, worlds books) (l books) {
	for range rnd.Intn(maxBooks + 1) {
		world := worlds[0]
		if rnd.Intn(30) == 0 {
			world = worlds[1]
		}
		often := 1 + rnd.Intn(20)
		l = append(l, shuffled(rnd, closed(world, func() bool { return rnd.Intn(often) == 0 })))
	}
	return l
}

// O1: all three calls do as the words of the chapter say, on books at random.
func TestRandom(t *testing.T) {
	rnd := rand.New(rand.NewSource(17))
	told := map[api.Errno]int{}
	for round := range 200 {
		worlds := books{written(t, rnd, rnd.Intn(30)), written(t, rnd, rnd.Intn(30))}
		l := booksOf(rnd, worlds)
		if round%3 == 0 {
			// Each of these alone is not too much for one Book.
			for actor := 50; actor < 50+min(5, maxBooks-len(l)); actor++ {
				l = append(l, both(chain(actor, rnd.Intn(50), 0), chain(49, rnd.Intn(50), 0)))
			}
			rnd.Shuffle(len(l), func(i, j int) { l[i], l[j] = l[j], l[i] })
		}
		what := fmt.Sprint("round ", round)
		union, bad := slowUnion(l)
		told[bad]++
		workers := 1 + rnd.Intn(8)
		if got, err := Union(l, workers); !reflect.DeepEqual(plainly(got), plainly(union)) || plain.Told(err) != bad {
			t.Fatalf("%s: Union by %d of %v: got %v, %v, want %v, %v", what, workers, l, got, err, union, bad)
		}
		var texts []string
		for _, book := range l {
			text, err := state.Text(book)
			must(t, err)
			texts = append(texts, text)
		}
		wantTexts(t, what, l, texts...)
		wantCommon(t, what, l, slowCommon(l))
	}
	if told[api.OK] < 50 || told[api.ErrClash] < 20 || told[api.ErrFull] < 20 {
		t.Errorf("the rounds told too few of one kind: %v", told)
	}
}
