package words

import (
	"math/rand"
	"slices"
	"strings"
	"testing"
	"unicode/utf8"

	"commonbook/api"
	"commonbook/doc"
	"commonbook/past"
)

// played is a hand beside the list as it should be: of its book, and with what is pending.
type played struct {
	*doc.Doc
	r           *rand.Rand
	kept, items []api.Value
	pending     int
}

func (p *played) runes(most int) string {
	some := []rune("abZ09 .,\u00e9\u20ac\U0001f600\uffff")
	var b strings.Builder
	for range p.r.Intn(most + 1) {
		b.WriteRune(some[p.r.Intn(len(some))])
	}
	return b.String()
}

// want tells what is asked of a Splice by the chapter's words.
func (p *played) want(at, gone int, s string) api.Errno {
	switch {
	case !utf8.ValidString(s):
		return api.ErrSyntax
	case at < 0 || at > len(p.items) || gone < 0 || at+gone > len(p.items):
		return api.ErrRange
	case gone+len([]rune(s))+p.pending > api.MaxOps:
		return api.ErrFull
	}
	return api.OK
}

func (p *played) splice(t *testing.T) {
	at, gone, s := p.r.Intn(len(p.items)+3)-1, p.r.Intn(6)-1, p.runes(8)
	if p.r.Intn(3) > 0 {
		at = p.r.Intn(len(p.items) + 1)
		gone = p.r.Intn(min(4, len(p.items)-at+1))
	}
	if p.r.Intn(10) == 0 {
		s += "\xe2\x82"
	}
	want := p.want(at, gone, s)
	wantTold(t, "Splice", Splice(p.Doc, list, at, gone, s), want)
	if want == api.OK {
		p.items = slices.Replace(slices.Clone(p.items), at, at+gone, runesOf(s)...)
		p.pending += gone + len([]rune(s))
	}
}

// other does something that is no Splice.
func (p *played) other(t *testing.T) {
	if p.pending == api.MaxOps {
		return
	}
	at := p.r.Intn(len(p.items) + 1)
	values := []api.Value{number(p.r.Intn(9)), text(p.runes(4)), {}, text("\xff"), {Kind: api.Truth, Num: 1}}
	v := values[p.r.Intn(len(values))]
	if at == len(p.items) || p.r.Intn(2) == 0 {
		must(t, p.Insert(list, at, v))
		p.items = slices.Insert(slices.Clone(p.items), at, v)
	} else {
		must(t, p.Set(list, at, v))
		p.items = slices.Clone(p.items)
		p.items[at] = v
	}
	p.pending++
}

func (p *played) end(t *testing.T) {
	if p.r.Intn(3) == 0 || p.pending == 0 {
		p.Rollback()
		p.items = p.kept
	} else {
		commit(t, p.Doc)
		p.kept = p.items
	}
	p.pending = 0
}

func textsOf(l []api.Value) string {
	var b strings.Builder
	for _, v := range l {
		if v.Kind == api.Text {
			b.WriteString(v.Text)
		}
	}
	return b.String()
}

// W1: one hand that splices, and does other things, at random: each time the list is as it should be.
func TestRandomHand(t *testing.T) {
	for seed := range 25 {
		p := &played{Doc: listed(t), r: rand.New(rand.NewSource(int64(seed)))}
		for range 100 {
			switch p.r.Intn(6) {
			case 0:
				p.end(t)
			case 1:
				p.other(t)
			default:
				p.splice(t)
			}
			wantRead(t, "at random", p.Doc, list, textsOf(p.items))
			if n, _ := p.Len(list); n != len(p.items) || p.Pending() != p.pending {
				t.Fatalf("seed %d: Len %d, %d pending, want %d, %d", seed, n, p.Pending(), len(p.items), p.pending)
			}
		}
	}
}

// textsOfTree reads the list by the tree of its book.
func textsOfTree(t *testing.T, d *doc.Doc) string {
	t.Helper()
	tree, err := past.Tree(d.All())
	must(t, err)
	var l []api.Value
	for _, kid := range tree.Kids[slices.Index(tree.Keys, "l")].Kids {
		l = append(l, kid.Value)
	}
	return textsOf(l)
}

// W1: several hands that splice at the same time, and are merged now and then: who has the same changes reads the same.
func TestRandomHands(t *testing.T) {
	for seed := range 40 {
		r := rand.New(rand.NewSource(int64(seed)))
		hands := []*doc.Doc{texted(t, "hello")}
		hands = append(hands, fork(t, hands[0], 2), fork(t, hands[0], 3))
		for range 25 {
			d := hands[r.Intn(len(hands))]
			merge(t, d, hands[r.Intn(len(hands))])
			p := &played{Doc: d, r: r}
			n, err := d.Len(list)
			must(t, err)
			p.items = make([]api.Value, n)
			p.splice(t)
			if d.Pending() > 0 {
				commit(t, d)
			}
			wantRead(t, "alone", d, list, textsOfTree(t, d))
		}
		for range 2 {
			for i, d := range hands {
				merge(t, d, hands[(i+1)%len(hands)])
			}
		}
		for _, d := range hands {
			wantRead(t, "merged", d, list, textsOfTree(t, hands[0]))
		}
	}
}
