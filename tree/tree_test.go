package tree

import (
	"math"
	"testing"

	"commonbook/api"
	"commonbook/plain"
)

// item of a plain list, against which rows are held.
type item struct{ thing, wide int }

// row of widths: the thing at index i is 10*i + 7.
func row(t testing.TB, wides ...int) *Row {
	t.Helper()
	r := New()
	for i, w := range wides {
		if err := r.Insert(i, 10*i+7, w); err != nil {
			t.Fatalf("Insert(%d, %d, %d): %v", i, 10*i+7, w, err)
		}
	}
	return r
}

// items of widths, as row makes them.
func items(wides ...int) (l []item) {
	for i, w := range wides {
		l = append(l, item{10*i + 7, w})
	}
	return l
}

// total width of a list.
func total(l []item) (n int) {
	for _, x := range l {
		n += x.wide
	}
	return n
}

// same holds all that a row tells against a plain list, and leaves no work to be told.
func same(t *testing.T, r *Row, l []item) {
	t.Helper()
	defer r.Work()
	if !sound(r.top) {
		t.Fatal("a piece is not summed up, or its sides are of unlike height")
	}
	if r.Len() != len(l) || r.Wide() != total(l) {
		t.Fatalf("Len %d, Wide %d, want %d, %d", r.Len(), r.Wide(), len(l), total(l))
	}
	sum := 0
	for i, x := range l {
		if thing, wide, err := r.Get(i); thing != x.thing || wide != x.wide || err != nil {
			t.Fatalf("Get(%d): %d %d %v, want %v", i, thing, wide, err, x)
		}
		if n, err := r.Ahead(i); n != sum || err != nil {
			t.Fatalf("Ahead(%d): %d %v, want %d", i, n, err, sum)
		}
		for _, within := range edges(x.wide) {
			if at, in, err := r.Find(sum + within); at != i || in != within || err != nil {
				t.Fatalf("Find(%d): %d %d %v, want %d %d", sum+within, at, in, err, i, within)
			}
		}
		sum += x.wide
	}
	if n, err := r.Ahead(len(l)); n != sum || err != nil {
		t.Fatalf("Ahead(%d): %d %v, want %d", len(l), n, err, sum)
	}
	if at, in, err := r.Find(sum); at != 0 || in != 0 || plain.Told(err) != api.ErrRange {
		t.Fatalf("Find(%d): %d %d %v, want ErrRange", sum, at, in, err)
	}
}

// edges of a thing so wide: all its places, or the first and the last ones.
func edges(wide int) (l []int) {
	for i := 0; i < wide; i++ {
		if i < 4 || i >= wide-4 {
			l = append(l, i)
		}
		if i == 4 && wide > 8 {
			i = wide - 5
		}
	}
	return l
}

// told holds an error against its number.
func told(t *testing.T, what string, err error, want api.Errno) {
	t.Helper()
	if plain.Told(err) != want {
		t.Errorf("%s: %v, want %v", what, err, want)
	}
}

// noIndexes: numbers that are no index of a row with that many things.
func noIndexes(many int) []int {
	return []int{-1, -2, many, many + 1, api.MaxNum, math.MinInt32, math.MaxInt32, math.MinInt, math.MinInt + 1, math.MaxInt, math.MaxInt - 1}
}

// noWidths: numbers that are no width.
var noWidths = []int{-1, -2, api.MaxNum + 1, math.MinInt32, math.MaxInt32, math.MinInt, math.MinInt + 1, math.MaxInt, math.MaxInt - 1}

func TestEmpty(t *testing.T) {
	same(t, New(), nil)
	for _, at := range noIndexes(0) {
		wrong(t, New(), at)
	}
	if w := New().Work(); w != 0 {
		t.Errorf("Work of a new row: %d", w)
	}
}

// wrong calls everything that takes the index of a thing with one that is none.
func wrong(t *testing.T, r *Row, at int) {
	t.Helper()
	thing, wide, err := r.Remove(at)
	told(t, "Remove", err, api.ErrRange)
	if thing != 0 || wide != 0 {
		t.Errorf("Remove(%d): %d %d with an error", at, thing, wide)
	}
	thing, wide, err = r.Get(at)
	told(t, "Get", err, api.ErrRange)
	if thing != 0 || wide != 0 {
		t.Errorf("Get(%d): %d %d with an error", at, thing, wide)
	}
	told(t, "Set", r.Set(at, 1), api.ErrRange)
	if at == r.Len() {
		return
	}
	told(t, "Insert", r.Insert(at, 1, 1), api.ErrRange)
	n, err := r.Ahead(at)
	told(t, "Ahead", err, api.ErrRange)
	if n != 0 {
		t.Errorf("Ahead(%d): %d with an error", at, n)
	}
}

func TestInsert(t *testing.T) {
	for at, want := range [][]item{
		{{99, 5}, {7, 1}, {17, 0}, {27, 3}},
		{{7, 1}, {99, 5}, {17, 0}, {27, 3}},
		{{7, 1}, {17, 0}, {99, 5}, {27, 3}},
		{{7, 1}, {17, 0}, {27, 3}, {99, 5}},
	} {
		r := row(t, 1, 0, 3)
		told(t, "Insert", r.Insert(at, 99, 5), api.OK)
		same(t, r, want)
	}
}

func TestThingsAreAnyNumber(t *testing.T) {
	r := New()
	var l []item
	for i, thing := range []int{0, -1, 1, math.MinInt, math.MaxInt, 0, api.MaxNum + 1} {
		told(t, "Insert", r.Insert(i, thing, i), api.OK)
		l = append(l, item{thing, i})
	}
	same(t, r, l)
}

func TestWidths(t *testing.T) {
	for _, wide := range []int{0, 1, api.MaxNum - 1, api.MaxNum} {
		r := row(t, 2, 2)
		told(t, "Insert", r.Insert(1, 5, wide), api.OK)
		same(t, r, []item{{7, 2}, {5, wide}, {17, 2}})
		told(t, "Set", r.Set(0, wide), api.OK)
		same(t, r, []item{{7, wide}, {5, wide}, {17, 2}})
	}
	for _, wide := range noWidths {
		r := row(t, 2, 2)
		told(t, "Insert", r.Insert(1, 5, wide), api.ErrRange)
		told(t, "Set", r.Set(1, wide), api.ErrRange)
		same(t, r, items(2, 2))
		told(t, "Insert", New().Insert(0, 5, wide), api.ErrRange)
	}
}

func TestRemove(t *testing.T) {
	for at, want := range [][]item{
		{{17, 0}, {27, 3}, {37, 4}},
		{{7, 1}, {27, 3}, {37, 4}},
		{{7, 1}, {17, 0}, {37, 4}},
		{{7, 1}, {17, 0}, {27, 3}},
	} {
		wides := []int{1, 0, 3, 4}
		r := row(t, wides...)
		if thing, wide, err := r.Remove(at); thing != 10*at+7 || wide != wides[at] || err != nil {
			t.Errorf("Remove(%d): %d %d %v", at, thing, wide, err)
		}
		same(t, r, want)
	}
	r := row(t, 6)
	if thing, wide, err := r.Remove(0); thing != 7 || wide != 6 || err != nil {
		t.Errorf("Remove of the only one: %d %d %v", thing, wide, err)
	}
	same(t, r, nil)
	told(t, "Insert into what was emptied", r.Insert(0, 3, 4), api.OK)
	same(t, r, []item{{3, 4}})
}

func TestRemoveTellsTheWidthThatWasSet(t *testing.T) {
	r := row(t, 1, 2, 3)
	told(t, "Set", r.Set(1, 8), api.OK)
	if thing, wide, err := r.Remove(1); thing != 17 || wide != 8 || err != nil {
		t.Errorf("Remove: %d %d %v", thing, wide, err)
	}
	same(t, r, []item{{7, 1}, {27, 3}})
}

func TestSet(t *testing.T) {
	for at := range 5 {
		for _, wide := range []int{0, 1, 9, api.MaxNum} {
			wides := []int{1, 0, 3, 0, 2}
			r := row(t, wides...)
			told(t, "Set", r.Set(at, wide), api.OK)
			wides[at] = wide
			same(t, r, items(wides...))
			told(t, "Set again", r.Set(at, wide), api.OK)
			same(t, r, items(wides...))
		}
	}
}

func TestThingsWithoutPlace(t *testing.T) {
	for _, wides := range [][]int{
		{0}, {0, 0}, {0, 0, 0, 0, 0, 0, 0, 0},
		{0, 2, 3}, {2, 0, 3}, {2, 3, 0}, {0, 0, 1, 0, 0, 1, 0, 0},
		{0, 0, 0, 0, 0, 0, 0, 5}, {5, 0, 0, 0, 0, 0, 0, 0}, {0, 0, 0, 0, 5, 0, 0, 0},
	} {
		same(t, row(t, wides...), items(wides...))
	}
	if at, within, err := row(t, 0, 0, 4, 0).Find(0); at != 2 || within != 0 || err != nil {
		t.Errorf("Find(0): %d %d %v, want 2 0", at, within, err)
	}
	if at, within, err := row(t, 0, 2, 0, 0, 2).Find(2); at != 4 || within != 0 || err != nil {
		t.Errorf("Find(2): %d %d %v, want 4 0", at, within, err)
	}
}

func TestFindEachPlace(t *testing.T) {
	r := row(t, 2, 0, 1, 3)
	for place, want := range []item{{0, 0}, {0, 1}, {2, 0}, {3, 0}, {3, 1}, {3, 2}} {
		if at, within, err := r.Find(place); (item{at, within}) != want || err != nil {
			t.Errorf("Find(%d): %d %d %v, want %v", place, at, within, err, want)
		}
	}
}

func TestNoPlace(t *testing.T) {
	for _, wides := range [][]int{nil, {0}, {0, 0, 0}, {4}, {1, 0, 3}, {api.MaxNum, api.MaxNum}} {
		r := row(t, wides...)
		for _, place := range noIndexes(r.Wide()) {
			if place == api.MaxNum && r.Wide() > place {
				continue
			}
			at, within, err := r.Find(place)
			told(t, "Find", err, api.ErrRange)
			if at != 0 || within != 0 {
				t.Errorf("Find(%d): %d %d with an error", place, at, within)
			}
		}
		same(t, r, items(wides...))
	}
}

func TestAhead(t *testing.T) {
	r := row(t, 2, 0, 1, 3)
	for at, want := range []int{0, 2, 2, 3, 6} {
		if n, err := r.Ahead(at); n != want || err != nil {
			t.Errorf("Ahead(%d): %d %v, want %d", at, n, err, want)
		}
	}
	n, err := r.Ahead(5)
	told(t, "Ahead behind the end", err, api.ErrRange)
	if n != 0 {
		t.Errorf("Ahead(5): %d with an error", n)
	}
}

// TestNoIndex: a call with an error changes nothing, in Work neither.
func TestNoIndex(t *testing.T) {
	for _, wides := range [][]int{{3}, {0}, {1, 2}, {1, 0, 2, 4, 0, 0, 7}} {
		r := row(t, wides...)
		r.Work()
		for _, at := range noIndexes(len(wides)) {
			wrong(t, r, at)
		}
		for _, wide := range noWidths {
			told(t, "Insert", r.Insert(0, 1, wide), api.ErrRange)
			told(t, "Set", r.Set(0, wide), api.ErrRange)
		}
		if w := r.Work(); w != 0 {
			t.Errorf("Work of calls with an error: %d", w)
		}
		same(t, r, items(wides...))
	}
}

func TestTwoRowsAreNotOne(t *testing.T) {
	a, b := row(t, 1, 2), New()
	a.Work()
	same(t, b, nil)
	told(t, "Insert", b.Insert(0, 1, 9), api.OK)
	told(t, "Set", b.Set(0, 4), api.OK)
	b.Get(0)
	if w := a.Work(); w != 0 {
		t.Errorf("Work of another row: %d", w)
	}
	same(t, a, items(1, 2))
	a.Remove(0)
	same(t, b, []item{{1, 4}})
	same(t, a, []item{{17, 2}})
}
