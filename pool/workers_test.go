package pool

import (
	"fmt"
	"reflect"
	"runtime"
	"slices"
	"sync"
	"sync/atomic"
	"testing"

	"commonbook/api"
	"commonbook/plain"
)

// mixed is books of unlike lengths, in the first of which, and in the last, most is to be done.
func mixed(many int) (l books) {
	for i := range many {
		l = append(l, both(chain(1, 1+(i*37+60)%50, 0), chain(2, (i*11)%20, 0)))
	}
	return l
}

// O1: how many workers there are makes no difference, nor how often they are asked.
func TestWorkers(t *testing.T) {
	for many := range maxBooks + 1 {
		l := mixed(many)
		union, err := Union(l, 1)
		must(t, err)
		texts, err := Texts(l, 1)
		must(t, err)
		wantUnion(t, fmt.Sprint(many, " books"), l, union)
		wantTexts(t, fmt.Sprint(many, " books"), l, texts...)
	}
}

// O1: how workers take turns makes no difference, also to which error is told.
func TestTurns(t *testing.T) {
	for _, f := range faults() {
		l := mixed(maxBooks)
		l[5], l[6], l[19] = f.l, both(chain(1, 1, 0), chain(1, 1, 0)), []api.Change{{}}
		for range 3 {
			wantTold(t, f.what, l, f.want, 1, 2, 8, 9)
		}
	}
}

// O1: nothing goes on working when a call has answered.
func TestNoneGoesOn(t *testing.T) {
	started := runtime.NumGoroutine()
	for _, l := range []books{nil, mixed(1), mixed(3), mixed(8), mixed(maxBooks), {chain(1, 1, 0), {{}}, chain(1, 1, 1)}, {chain(1, 1, 0), chain(1, 1, 1)}, make(books, maxBooks+1)} {
		for _, workers := range []int{1, 2, 8, 0, 9, -1, 1 << 40} {
			_, _ = Union(l, workers)
			_, _ = Texts(l, workers)
			_, _ = Common(l)
		}
	}
	// Who has said that he is done may still be on his way out.
	for range 1_000_000 {
		if runtime.NumGoroutine() <= started {
			return
		}
		runtime.Gosched()
	}
	t.Errorf("%d go on working, and only %d did before", runtime.NumGoroutine(), started)
}

// O1: when a call has answered, what was handed in may be written to.
func TestNoneReadsOn(t *testing.T) {
	for range 20 {
		for workers := 1; workers <= maxWorkers; workers++ {
			l := mixed(maxBooks)
			l[0] = []api.Change{{}}
			wantNoTexts(t, "the first one is none", l, workers, api.ErrState)
			for _, book := range l {
				spoil(book)
			}
			clear(l)
		}
	}
}

// O1: calls at once on the same books tell the same.
func TestAtOnce(t *testing.T) {
	l := mixed(12)
	union, err := Union(l, 1)
	must(t, err)
	texts, err := Texts(l, 1)
	must(t, err)
	var all sync.WaitGroup
	var off atomic.Int64
	for i := range 32 {
		all.Go(func() {
			got, err := Union(l, 1+i%8)
			if err != nil || !reflect.DeepEqual(plainly(got), plainly(union)) {
				off.Add(1)
			}
			if got, err := Texts(l, 1+i%8); err != nil || !slices.Equal(got, texts) {
				off.Add(1)
			}
			if _, err := Common(append(slices.Clone(l), []api.Change{{}})); plain.Told(err) != api.ErrState {
				off.Add(1)
			}
		})
	}
	all.Wait()
	if off.Load() != 0 {
		t.Errorf("%d calls at once told something else", off.Load())
	}
}

// O1: shareOut has each book read once, by no more workers than it is told.
func TestShareOut(t *testing.T) {
	for workers := 1; workers <= maxWorkers; workers++ {
		for many := range maxBooks + 1 {
			l := make(books, many)
			for i := range l {
				l[i] = chain(1, 1+i, 0)
			}
			var busy, mostBusy, read atomic.Int64
			answers, faults := shareOut(l, workers, func(c []api.Change) (int, error) {
				now := busy.Add(1)
				for old := mostBusy.Load(); now > old && !mostBusy.CompareAndSwap(old, now); {
					old = mostBusy.Load()
				}
				runtime.Gosched()
				read.Add(1)
				busy.Add(-1)
				if len(c)%3 == 0 {
					return 0, api.Errno(len(c))
				}
				return len(c), nil
			})
			if len(answers) != many || len(faults) != many || int(read.Load()) != many || int(mostBusy.Load()) > workers {
				t.Fatalf("%d by %d: got %v, %v; %d were read, %d at once", many, workers, answers, faults, read.Load(), mostBusy.Load())
			}
			for i := range many {
				n := i + 1
				if n%3 == 0 && (answers[i] != 0 || faults[i] != api.Errno(n)) || n%3 != 0 && (answers[i] != n || faults[i] != nil) {
					t.Errorf("%d by %d: got %v, %v at %d", many, workers, answers[i], faults[i], i)
				}
			}
		}
	}
}

// O1: as many workers as shareOut is told read at once, if there are as many books.
func TestReadAtOnce(t *testing.T) {
	for workers := 1; workers <= maxWorkers; workers++ {
		for _, many := range []int{workers, workers + 1, maxBooks} {
			var inside atomic.Int64
			var all sync.WaitGroup
			all.Add(workers)
			// The first ones read on only when as many as there are workers have begun, so fewer would never end.
			_, faults := shareOut(make(books, many), workers, func([]api.Change) (int, error) {
				if inside.Add(1) <= int64(workers) {
					all.Done()
				}
				all.Wait()
				return 0, nil
			})
			if len(faults) != many || inside.Load() != int64(many) {
				t.Errorf("%d by %d: %d were read, %d answered", many, workers, inside.Load(), len(faults))
			}
		}
	}
}
