package store

import (
	"errors"

	"commonbook/api"
	"commonbook/change"
	"commonbook/dag"
	"commonbook/disk"
)

// draft is the file that a book is written to ahead of having the book's name. It is no name of a book, and no SyncNames comes while it is there, so that no crash leaves it.
const draft = "draft."

// kept gives the book that has a name.
func kept(d *disk.Disk, name string) (*dag.Book, error) {
	if !isName(name) {
		return nil, api.ErrSyntax
	}
	b, err := d.Read(name)
	if err != nil {
		return nil, err
	}
	return decode(b), nil
}

// write makes a book's file anew. The old one has the name until the new one is whole and safe, so that wherever the disk stops there is one of both, and never a piece.
func write(d *disk.Disk, name string, book *dag.Book) error {
	b := encode(book)
	if len(b) > api.MaxBytes {
		// Ahead of making a draft, which would be left behind.
		return full(d)
	}
	return inTurn(
		func() error { return sweep(d) },
		func() error { return d.Create(draft) },
		func() error { return d.Append(draft, b) },
		func() error { return d.Sync(draft) },
		func() error { return d.Rename(draft, name) },
		d.SyncNames,
	)
}

// full is what a disk says of more than a file may have. One that has stopped says that ahead of it, even of a step that no disk does.
func full(d *disk.Disk) error {
	if err := d.Create(""); errors.Is(err, api.ErrState) {
		return err
	}
	return api.ErrFull
}

// sweep takes away what a call that stopped has left. It comes ahead of each SyncNames, which would keep it.
func sweep(d *disk.Disk) error {
	err := d.Remove(draft)
	if errors.Is(err, api.ErrNone) {
		return nil
	}
	return err
}

// inTurn goes on as long as nothing is wrong.
func inTurn(steps ...func() error) error {
	for _, step := range steps {
		if err := step(); err != nil {
			return err
		}
	}
	return nil
}

// encode gives the changes of a book one behind the other: in the order of All, so that the same changes are the same bytes.
func encode(book *dag.Book) (b []byte) {
	for _, c := range book.All() {
		// Nothing is wrong with it: the book has taken it.
		part, _ := change.Encode(c)
		b = append(b, part...)
	}
	return b
}

// decode gives a book of what encode wrote. Of other bytes, which only someone else can have written, it takes what can be read and hangs together.
func decode(b []byte) *dag.Book {
	book := dag.New()
	for len(b) > 0 {
		c, size, err := change.Decode(b)
		if err != nil {
			break
		}
		book.Take(c)
		b = b[size:]
	}
	return book
}
