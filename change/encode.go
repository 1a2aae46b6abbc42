package change

import (
	"commonbook/api"
	"commonbook/bytes"
)

// Encode writes a change.
func Encode(c api.Change) ([]byte, error) {
	if err := Check(c); err != nil {
		return nil, err
	}
	b := put(nil, c.Actor, c.Seq, c.Start, len(c.Deps))
	for _, r := range c.Deps {
		b = put(b, r.Actor, r.Seq)
	}
	b = put(b, len(c.Ops))
	for _, op := range c.Ops {
		b = putOp(b, op)
	}
	return b, nil
}

// Decode reads a change.
func Decode(b []byte) (api.Change, int, error) {
	r := reader{rest: b}
	c := r.change()
	if r.bad || Check(c) != nil {
		return api.Change{}, 0, api.ErrFile
	}
	return c, len(b) - len(r.rest), nil
}

func put(b []byte, numbers ...int) []byte {
	for _, n := range numbers {
		b = append(b, bytes.Put(uint64(n))...)
	}
	return b
}

func putText(b []byte, s string) []byte {
	return append(put(b, len(s)), s...)
}

func putFlag(b []byte, flag bool) []byte {
	if flag {
		return put(b, 1)
	}
	return put(b, 0)
}

func putOp(b []byte, op api.Op) []byte {
	b = put(b, op.Kind, op.Obj.Num, op.Obj.Actor)
	b = putText(b, op.Key)
	b = put(b, op.Elem.Num, op.Elem.Actor)
	b = putFlag(b, op.Insert)
	b = putValue(b, op.Value)
	b = put(b, len(op.Preds))
	for _, a := range op.Preds {
		b = put(b, a.Num, a.Actor)
	}
	return b
}

// putValue leaves out Obj, which is the root in all that an op may have.
func putValue(b []byte, v api.Value) []byte {
	b = put(b, v.Kind)
	b = append(b, bytes.PutSigned(v.Num)...)
	return putText(b, v.Text)
}

// reader has the bytes that are still to be read; once something was none it has no more of them, so that all that follows is none, too.
type reader struct {
	rest []byte
	bad  bool
}

func (r *reader) fail() {
	*r = reader{bad: true}
}

func (r *reader) change() api.Change {
	return api.Change{
		Actor: r.number(),
		Seq:   r.number(),
		Start: r.number(),
		Deps:  r.refs(),
		Ops:   r.ops(),
	}
}

func (r *reader) refs() (l []api.Ref) {
	for range r.count(api.MaxDeps) {
		l = append(l, api.Ref{Actor: r.number(), Seq: r.number()})
	}
	return l
}

func (r *reader) ops() (l []api.Op) {
	for range r.count(api.MaxOps) {
		l = append(l, r.op())
	}
	return l
}

func (r *reader) op() api.Op {
	return api.Op{
		Kind:   r.number(),
		Obj:    r.id(),
		Key:    r.text(api.MaxKey),
		Elem:   r.id(),
		Insert: r.count(1) == 1,
		Value:  r.value(),
		Preds:  r.ids(),
	}
}

func (r *reader) value() api.Value {
	return api.Value{Kind: r.number(), Num: r.signed(), Text: r.text(api.MaxText)}
}

func (r *reader) ids() (l []api.Id) {
	for range r.count(api.MaxDeps) {
		l = append(l, r.id())
	}
	return l
}

func (r *reader) id() api.Id {
	return api.Id{Num: r.number(), Actor: r.number()}
}

// number may come to be below 0, where the bytes have one of all 64 bits: Check refuses these.
func (r *reader) number() int {
	n, size, err := bytes.Get(r.rest)
	if err != nil {
		r.fail()
		return 0
	}
	r.rest = r.rest[size:]
	return int(n)
}

func (r *reader) signed() int {
	n, size, err := bytes.GetSigned(r.rest)
	if err != nil {
		r.fail()
		return 0
	}
	r.rest = r.rest[size:]
	return n
}

// count reads how many there are: told here, because more than that many are not to be read at all.
func (r *reader) count(most int) int {
	n := r.number()
	if n < 0 || n > most {
		r.fail()
		return 0
	}
	return n
}

func (r *reader) text(most int) string {
	size := r.count(most)
	if size > len(r.rest) {
		r.fail()
		return ""
	}
	s := string(r.rest[:size])
	r.rest = r.rest[size:]
	return s
}
