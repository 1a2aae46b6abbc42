package pool

import (
	"sync"

	"commonbook/api"
)

// task is a book that is to be read, and where it stands among all.
type task struct {
	at   int
	book []api.Change
}

// shareOut has workers read each book, and gives what they make of it and what is wrong with it, both in the books' order, whoever reads which. None of them goes on when it answers.
func shareOut[A any](l [][]api.Change, workers int, way func([]api.Change) (A, error)) ([]A, []error) {
	answers, faults := make([]A, len(l)), make([]error, len(l))
	tasks := make(chan task)
	var busy sync.WaitGroup
	for range workers {
		busy.Add(1)
		go func() {
			defer busy.Done()
			for t := range tasks {
				// No two tasks have one place, so no two workers write to one.
				answers[t.at], faults[t.at] = way(t.book)
			}
		}()
	}
	for i, book := range l {
		tasks <- task{at: i, book: book}
	}
	close(tasks)
	busy.Wait()
	return answers, faults
}
