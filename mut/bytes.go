package mut

import (
	"bytes"

	"cenotaph/api"
	"cenotaph/wire"
)

// Rest: bytes, and then all of a mutation that may be, but its key.
func Rest(b []byte, m api.Mut) []byte {
	return addRest(bytes.Clone(b), m)
}

// Put: bytes, and then a mutation that may be: its key, and its rest.
func Put(b []byte, m api.Mut) []byte {
	return add(bytes.Clone(b), m)
}

// With: the mutation of a key whose rest comes next; zero with the reader's fault, or ErrMut: it may not be.
func With(r *wire.Reader, key string) api.Mut {
	m := api.Mut{Key: key}
	m.Table = api.Table(r.Num())
	m.Kind = api.Kind(r.Num())
	m.End = r.Text(api.MaxKey)
	m.Val = r.Text(api.MaxVal)
	m.Expiry = r.Num()
	m.At = getStamp(r)
	for range r.Count(api.MaxOver) {
		m.Over = append(m.Over, getStamp(r))
	}
	if !Right(m) {
		r.Fail(api.ErrMut) // a fault of the bytes, which came ahead, stays
	}
	if r.Why() != api.OK {
		return api.Mut{}
	}
	return m
}

// Get: the mutation that comes next; likewise.
func Get(r *wire.Reader) api.Mut {
	return With(r, r.Text(api.MaxKey))
}

// All: how many mutations there are, and they, as bytes.
func All(b []byte, l []api.Mut) []byte {
	b = wire.Put(b, len(l))
	for _, m := range l {
		b = add(b, m)
	}
	return b
}

// List: the mutations that come next, at most so many.
func List(r *wire.Reader, most int) []api.Mut {
	var l []api.Mut
	for range r.Count(most) {
		m := Get(r)
		if r.Why() != api.OK { // asked one by one: more may be announced than there are bytes
			return nil
		}
		l = append(l, m)
	}
	return l
}

// The bytes that add and its kin are given are their own: what they append is seen by nobody else.

func add(b []byte, m api.Mut) []byte {
	b = append(b, wire.Text(nil, m.Key)...)
	return addRest(b, m)
}

func addRest(b []byte, m api.Mut) []byte {
	b = addNum(b, int(m.Table))
	b = addNum(b, int(m.Kind))
	b = append(b, wire.Text(nil, m.End)...)
	b = append(b, wire.Text(nil, m.Val)...)
	b = addNum(b, m.Expiry)
	b = addStamp(b, m.At)
	b = addNum(b, len(m.Over))
	for _, s := range m.Over {
		b = addStamp(b, s)
	}
	return b
}

func addStamp(b []byte, s api.Stamp) []byte {
	b = addNum(b, s.Phys)
	b = addNum(b, s.Logic)
	return addNum(b, s.Who)
}

// addNum has the number alone made by layer 3, which would else copy all that is ahead, too.
func addNum(b []byte, n int) []byte {
	return append(b, wire.Put(nil, n)...)
}

func getStamp(r *wire.Reader) api.Stamp {
	phys := r.Num()
	logic := r.Num()
	return api.Stamp{Phys: phys, Logic: logic, Who: r.Num()}
}
