package tree

import (
	"math/bits"
	"math/rand"
	"slices"
	"testing"

	"commonbook/api"
)

// most things that a row may have, as T1 says it.
const full = 100000

// ways in which a row is filled or emptied: each tells an index below a number.
var ways = map[string]func(rnd *rand.Rand, many int) int{
	"front":    func(_ *rand.Rand, many int) int { return 0 },
	"end":      func(_ *rand.Rand, many int) int { return many - 1 },
	"middle":   func(_ *rand.Rand, many int) int { return many / 2 },
	"third":    func(_ *rand.Rand, many int) int { return many / 3 },
	"by turns": func(_ *rand.Rand, many int) int { return many % 2 * (many - 1) },
	"anywhere": func(rnd *rand.Rand, many int) int { return rnd.Intn(many) },
}

// bound of T2 for a row of that many things.
func bound(many int) int { return 40 + 30*bits.Len(uint(many)) }

// light fails if a call looked at more than it may, or a call that had to look looked at nothing.
func light(t *testing.T, r *Row, what string, many int) {
	t.Helper()
	if w := r.Work(); w < 1 || w > bound(many) {
		t.Fatalf("Work of %s among %d: %d, at most %d", what, many, w, bound(many))
	}
	if w := r.Work(); w != 0 {
		t.Fatalf("Work asked again: %d", w)
	}
}

// TestLong: rows made in one way and taken apart in another, against a plain list.
func TestLong(t *testing.T) {
	for in, put := range ways {
		for out, take := range ways {
			t.Run(in+", "+out, func(t *testing.T) {
				rnd := rand.New(rand.NewSource(6))
				r, l := New(), []item(nil)
				for i := range 600 {
					at, x := put(rnd, len(l)+1), item{i, rnd.Intn(4)}
					told(t, "Insert", r.Insert(at, x.thing, x.wide), api.OK)
					light(t, r, "Insert", len(l))
					l = slices.Insert(l, at, x)
				}
				same(t, r, l)
				for i := 0; len(l) > 0; i++ {
					at := take(rnd, len(l))
					thing, wide, err := r.Remove(at)
					if (item{thing, wide}) != l[at] || err != nil {
						t.Fatalf("Remove(%d): %d %d %v, want %v", at, thing, wide, err, l[at])
					}
					light(t, r, "Remove", len(l)-1)
					l = slices.Delete(l, at, at+1)
					if i%97 == 0 || len(l) < 9 {
						same(t, r, l)
					}
				}
			})
		}
	}
}

// TestShapes: every row of up to 7 things, made in each order of places, and with one thing taken out.
func TestShapes(t *testing.T) {
	var grow func(steps []int)
	grow = func(steps []int) {
		for gone := range steps {
			r, l := New(), []item(nil)
			for i, at := range steps {
				told(t, "Insert", r.Insert(at, i, i%3), api.OK)
				l = slices.Insert(l, at, item{i, i % 3})
			}
			same(t, r, l)
			r.Remove(gone)
			same(t, r, slices.Delete(l, gone, gone+1))
		}
		if len(steps) == 7 {
			return
		}
		for at := range len(steps) + 1 {
			grow(append(slices.Clone(steps), at))
		}
	}
	grow(nil)
}

// TestMixed: calls of all kinds, some of them wrong, against a plain list.
func TestMixed(t *testing.T) {
	for seed := range int64(60) {
		rnd := rand.New(rand.NewSource(seed))
		r, l := New(), []item(nil)
		for range 400 {
			at, wide := rnd.Intn(len(l)+3)-1, rnd.Intn(5)*rnd.Intn(4)-1
			switch rnd.Intn(5) {
			case 0, 1:
				x := item{rnd.Int(), wide}
				if want := at >= 0 && at <= len(l) && wide >= 0; want != (r.Insert(at, x.thing, wide) == nil) {
					t.Fatalf("seed %d: Insert(%d, _, %d) of %d", seed, at, wide, len(l))
				} else if want {
					l = slices.Insert(l, at, x)
				}
			case 2:
				_, _, err := r.Remove(at)
				if want := at >= 0 && at < len(l); want != (err == nil) {
					t.Fatalf("seed %d: Remove(%d) of %d: %v", seed, at, len(l), err)
				} else if want {
					l = slices.Delete(l, at, at+1)
				}
			default:
				err := r.Set(at, wide)
				if want := at >= 0 && at < len(l) && wide >= 0; want != (err == nil) {
					t.Fatalf("seed %d: Set(%d, %d) of %d: %v", seed, at, wide, len(l), err)
				} else if want {
					l[at].wide = wide
				}
			}
			if rnd.Intn(8) == 0 {
				same(t, r, l)
			}
		}
		same(t, r, l)
	}
}

// TestFull: 100000 things, made in each way, one more, and the work of each call.
func TestFull(t *testing.T) {
	for way, put := range ways {
		t.Run(way, func(t *testing.T) {
			rnd := rand.New(rand.NewSource(7))
			r, sum := New(), 0
			for i := range full {
				wide := i % 3 * (i % 1000)
				if err := r.Insert(put(rnd, i+1), i, wide); err != nil {
					t.Fatalf("Insert of thing %d: %v", i, err)
				}
				light(t, r, "Insert", i)
				sum += wide
			}
			if r.Len() != full || r.Wide() != sum {
				t.Fatalf("Len %d, Wide %d, want %d, %d", r.Len(), r.Wide(), full, sum)
			}
			r.Work()
			overfill(t, r)
			lookAll(t, r, rnd)
			for n := full; n > 0; n-- {
				if _, _, err := r.Remove(put(rnd, n)); err != nil {
					t.Fatalf("Remove of %d: %v", n, err)
				}
				light(t, r, "Remove", n-1)
			}
			same(t, r, nil)
		})
	}
}

// overfill a full row: what is out of range is told first, and nothing is changed.
func overfill(t *testing.T, r *Row) {
	t.Helper()
	sum := r.Wide()
	for _, at := range []int{0, 1, full / 2, full - 1, full} {
		told(t, "Insert into a full row", r.Insert(at, 1, 1), api.ErrFull)
		told(t, "Insert, not so wide", r.Insert(at, 1, -1), api.ErrRange)
		told(t, "Insert, too wide", r.Insert(at, 1, api.MaxNum+1), api.ErrRange)
	}
	told(t, "Insert ahead of all", r.Insert(-1, 1, 1), api.ErrRange)
	told(t, "Insert behind all", r.Insert(full+1, 1, 1), api.ErrRange)
	if r.Len() != full || r.Wide() != sum {
		t.Fatalf("Len %d, Wide %d, want %d, %d", r.Len(), r.Wide(), full, sum)
	}
	if w := r.Work(); w > bound(full) {
		t.Fatalf("Work of calls with an error: %d", w)
	}
	thing, wide, err := r.Remove(full / 2)
	told(t, "Remove from a full row", err, api.OK)
	told(t, "Insert then", r.Insert(full/2, thing, wide), api.OK)
	told(t, "Insert once more", r.Insert(0, thing, wide), api.ErrFull)
	r.Work()
}

// lookAll asks a full row of much that it has, and holds the work of each call against the bound.
func lookAll(t *testing.T, r *Row, rnd *rand.Rand) {
	t.Helper()
	for range 3000 {
		at := rnd.Intn(full)
		_, wide, err := r.Get(at)
		told(t, "Get", err, api.OK)
		light(t, r, "Get", full)
		before, err := r.Ahead(at)
		told(t, "Ahead", err, api.OK)
		light(t, r, "Ahead", full)
		if wide > 0 {
			found, within, err := r.Find(before + wide - 1)
			if found != at || within != wide-1 || err != nil {
				t.Fatalf("Find(%d): %d %d %v, want %d %d", before+wide-1, found, within, err, at, wide-1)
			}
			light(t, r, "Find", full)
		}
		sum := r.Wide()
		told(t, "Set", r.Set(at, wide+5), api.OK)
		light(t, r, "Set", full)
		if r.Wide() != sum+5 {
			t.Fatalf("Wide after Set: %d, want %d", r.Wide(), sum+5)
		}
		told(t, "Set back", r.Set(at, wide), api.OK)
		r.Work()
	}
	if n, err := r.Ahead(full); n != r.Wide() || err != nil {
		t.Fatalf("Ahead(%d): %d %v, want %d", full, n, err, r.Wide())
	}
	if w := r.Work(); w > bound(full) {
		t.Fatalf("Work of Ahead at the end: %d", w)
	}
}

// TestWidest: a full row of things as wide as may be.
func TestWidest(t *testing.T) {
	r := New()
	for i := range full {
		told(t, "Insert", r.Insert(i, i, api.MaxNum), api.OK)
	}
	if r.Wide() != full*api.MaxNum {
		t.Errorf("Wide: %d", r.Wide())
	}
	for _, place := range []int{0, 1, api.MaxNum - 1, api.MaxNum, 12345678901, full*api.MaxNum - 1} {
		at, within, err := r.Find(place)
		if at != place/api.MaxNum || within != place%api.MaxNum || err != nil {
			t.Errorf("Find(%d): %d %d %v", place, at, within, err)
		}
	}
	_, _, err := r.Find(full * api.MaxNum)
	told(t, "Find behind all", err, api.ErrRange)
}

// TestWorkAddsUp: the work of several calls is told at once, and not told again.
func TestWorkAddsUp(t *testing.T) {
	r := row(t, 1, 2, 3, 4, 5, 6, 7)
	r.Work()
	alone := 0
	for range 3 {
		r.Get(5)
		alone += r.Work()
	}
	for range 3 {
		r.Get(5)
	}
	if w := r.Work(); w != alone || w == 0 {
		t.Errorf("Work of three calls: %d, want %d", w, alone)
	}
	if w := r.Work(); w != 0 {
		t.Errorf("Work asked again: %d", w)
	}
}
