package sync

import (
	"slices"

	"commonbook/api"
	"commonbook/bytes"
	"commonbook/change"
)

const (
	sumStart  = 14695981039346656037
	sumFactor = 1099511628211

	// mostNeeded refs are missing: all heads of the other side, and all that a book full of waiting changes hangs on.
	mostNeeded = api.MaxActor + api.MaxChanges*api.MaxDeps
)

// write gives the bytes of a message: its fields one after the other, and their sum behind them.
func write(m Message) []byte {
	b := putRefs(nil, m.Heads)
	b = putFlag(b, m.Knows)
	b = putRefs(b, m.Known)
	b = putRefs(b, m.Need)
	b = putFlag(b, m.Content)
	b = put(b, len(m.Filter))
	b = append(b, m.Filter...)
	b = put(b, len(m.Changes))
	for _, c := range m.Changes {
		// A book takes none that could not be encoded, and none was read otherwise.
		encoded, _ := change.Encode(c)
		b = append(b, encoded...)
	}
	return append(b, bytes.Put(sum(b))...)
}

func put(b []byte, n int) []byte {
	return append(b, bytes.Put(uint64(n))...)
}

func putFlag(b []byte, flag bool) []byte {
	if flag {
		return put(b, 1)
	}
	return put(b, 0)
}

func putRefs(b []byte, l []api.Ref) []byte {
	b = put(b, len(l))
	for _, r := range l {
		b = put(put(b, r.Actor), r.Seq)
	}
	return b
}

// sum tells garbled bytes from those that were written. Each step can be undone (the factor is odd), so that bytes of which just one is another always have another sum.
func sum(b []byte) uint64 {
	var x uint64 = sumStart
	for _, n := range b {
		x = (x ^ uint64(n)) * sumFactor
	}
	return x
}

// reader has the bytes that are still to be read. What cannot be read is read as nothing: what is written of it is then not what was read.
type reader struct{ rest []byte }

func (r *reader) message() Message {
	return Message{
		Heads:   r.refs(api.MaxActor),
		Knows:   r.flag(),
		Known:   r.refs(api.MaxActor),
		Need:    r.refs(mostNeeded),
		Content: r.flag(),
		Filter:  r.filter(),
		Changes: r.changes(),
	}
}

// number may come to be below 0, where the bytes have one of all 64 bits: no list is so long, and no ref has it.
func (r *reader) number() int {
	n, size, err := bytes.Get(r.rest)
	if err != nil {
		return 0
	}
	r.rest = r.rest[size:]
	return int(n)
}

func (r *reader) flag() bool { return r.number() == 1 }

// count reads how many there are: of more than that many none is to be read at all.
func (r *reader) count(most int) int {
	n := r.number()
	if n < 0 || n > most {
		return 0
	}
	return n
}

func (r *reader) refs(most int) (l []api.Ref) {
	for range r.count(most) {
		l = append(l, api.Ref{Actor: r.number(), Seq: r.number()})
	}
	return l
}

func (r *reader) filter() []byte {
	size := min(r.count(filterBits(api.MaxChanges)/8), len(r.rest))
	// A copy, because what was handed in is not the answer's.
	filter := slices.Clone(r.rest[:size])
	r.rest = r.rest[size:]
	return filter
}

func (r *reader) changes() (l []api.Change) {
	for range r.count(api.MaxChanges) {
		c, size, err := change.Decode(r.rest)
		if err != nil {
			return nil
		}
		l = append(l, c)
		r.rest = r.rest[size:]
	}
	return l
}
