package compat

import (
	"patternbook/api"
	"patternbook/book"
	"patternbook/value"
)

// Witness is a value of a type that is written by one book, and cannot be read by another one; ErrNone: all can.
func Witness(w, r api.Book, name string) (api.Value, api.Errno) {
	b := books{w, r}
	first, e := b.named(name)
	if e != api.OK {
		return api.Value{}, e
	}
	l := b.reached(first)
	for i, p := range l {
		if flaws := b.flaws(p); len(flaws) > 0 {
			v := b.around(p, flaws[0].Id, b.unread(p, flaws[0]))
			return b.outward(l, i, v), api.OK
		}
	}
	return api.Value{}, api.ErrNone
}

// unread is what the reader's field of a flaw refuses, whatever else the message has.
func (b books) unread(p pair, flaw api.Flaw) []api.Value {
	switch flaw.Why {
	case api.NotMany:
		return []api.Value{least(b.w, p.w, flaw.Id), least(b.w, p.w, flaw.Id)}
	case api.NoItem:
		f, _ := book.FieldOf(p.w, flaw.Id)
		g, _ := book.FieldOf(p.r, flaw.Id)
		n, _ := b.strange(f, g)
		return []api.Value{{Kind: api.IsNumber, N: n}}
	}
	return []api.Value{least(b.w, p.w, flaw.Id)}
}

// outward is a message of the pair i within those that led there. As no pair stands in this way twice, it is never too deep, and as all else is least, it is never too large.
func (b books) outward(l []pair, i int, v api.Value) api.Value {
	for i > 0 {
		from, id := l[i].from, l[i].id
		v = b.around(l[from], id, []api.Value{v})
		i = from
	}
	return v
}

// around is the least message of the writer's that has these values at a field.
func (b books) around(p pair, id int, values []api.Value) api.Value {
	v := api.Value{Kind: api.IsMessage}
	put := putter(&v)
	for _, f := range p.w.Fields {
		if f.Id == id {
			put(id, values...)
		} else if f.Rule == api.One {
			put(f.Id, least(b.w, p.w, f.Id))
		}
	}
	return v
}

// putter is what puts values at an id into a message, behind those that are there.
func putter(v *api.Value) func(int, ...api.Value) {
	return func(id int, values ...api.Value) {
		for _, x := range values {
			v.Ids = append(v.Ids, id)
			v.L = append(v.L, x)
		}
	}
}

// least is the least of a field that the type has: each time another value, so that no two share a list.
func least(b api.Book, t api.Type, id int) api.Value {
	v, _ := value.LeastOf(b, t.Name, id)
	return v
}
