package json

import (
	"strconv"
	"strings"

	"commonbook/api"
	"commonbook/value"
)

// fault is what a text cannot be, and where.
type fault struct {
	at  int
	err api.Errno
}

// reader reads a text from the left. Where the text cannot go on, it panics with a fault, from however deep within.
type reader struct {
	text string
	at   int
	many int // trees that have begun
}

// Parse reads a tree.
func Parse(text string) (t api.Tree, at int, err error) {
	if len(text) > api.MaxBytes {
		return api.Tree{}, 0, api.ErrFull
	}
	defer func() {
		if e := recover(); e != nil {
			// Without a second value, so that what is no fault of the text is not taken for one.
			f := e.(fault)
			t, at, err = api.Tree{}, f.at, f.err
		}
	}()
	r := reader{text: text}
	t = r.tree()
	if r.at < len(text) {
		panic(fault{r.at, api.ErrSyntax})
	}
	return t, 0, nil
}

func (r *reader) rest() string { return r.text[r.at:] }

// skip goes on behind a piece of text, if it stands there.
func (r *reader) skip(piece string) bool {
	if !strings.HasPrefix(r.rest(), piece) {
		return false
	}
	r.at += len(piece)
	return true
}

func (r *reader) need(piece string) {
	if !r.skip(piece) {
		panic(fault{r.at, api.ErrSyntax})
	}
}

// tree reads a tree that has to begin here.
func (r *reader) tree() api.Tree {
	if r.many == api.MaxList {
		panic(fault{r.at, api.ErrFull})
	}
	r.many++
	switch {
	case r.skip("{"):
		return r.readMap()
	case r.skip("["):
		return r.readList()
	case strings.HasPrefix(r.rest(), `"`):
		return api.Tree{Value: api.Value{Kind: api.Text, Text: r.quoted(api.MaxText)}}
	case r.digits() != "":
		return api.Tree{Value: r.number()}
	}
	return api.Tree{Value: r.word()}
}

func (r *reader) readMap() api.Tree {
	t := api.Tree{Value: api.Value{Kind: api.Map}}
	r.row("}", func() {
		t.Keys = append(t.Keys, r.key(t.Keys))
		r.need(":")
		t.Kids = append(t.Kids, r.tree())
	})
	return t
}

func (r *reader) readList() api.Tree {
	t := api.Tree{Value: api.Value{Kind: api.List}}
	r.row("]", func() { t.Kids = append(t.Kids, r.tree()) })
	return t
}

// row reads things, one by one, up to the end of the map or list that they are in. Where that end does not stand, a thing has to begin, whatever stands there.
func (r *reader) row(end string, one func()) {
	if r.skip(end) {
		return
	}
	one()
	for !r.skip(end) {
		r.need(",")
		one()
	}
}

// key reads a key that stands behind others.
func (r *reader) key(others []string) string {
	begin := r.at
	key := r.quoted(api.MaxKey)
	if key == "" || len(others) > 0 && key <= others[len(others)-1] {
		panic(fault{begin, api.ErrSyntax})
	}
	return key
}

// quoted reads a text of so many bytes at most.
func (r *reader) quoted(most int) string {
	text, size, err := value.Unquote(r.rest())
	if err != nil || len(text) > most {
		panic(fault{r.at, api.ErrSyntax})
	}
	r.at += size
	return text
}

// digits gives all digits and `-` that stand here.
func (r *reader) digits() string {
	behind := strings.TrimLeft(r.rest(), "-0123456789")
	return r.text[r.at : len(r.text)-len(behind)]
}

func (r *reader) number() api.Value {
	digits := r.digits()
	n, err := strconv.Atoi(digits)
	// Written again, because Atoi takes needless noughts, too.
	if err != nil || strconv.Itoa(n) != digits {
		panic(fault{r.at, api.ErrSyntax})
	}
	r.at += len(digits)
	return api.Value{Kind: api.Number, Num: n}
}

func (r *reader) word() api.Value {
	for _, v := range []api.Value{{Kind: api.Nil}, {Kind: api.Truth}, {Kind: api.Truth, Num: 1}} {
		if r.skip(value.Show(v)) {
			return v
		}
	}
	panic(fault{r.at, api.ErrSyntax})
}
