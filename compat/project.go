package compat

import (
	"patternbook/api"
	"patternbook/book"
	"patternbook/value"
)

// Project is what a reader makes of a value of the writer's: what it does not know is gone, what lacks is the least.
func Project(w, r api.Book, name string, v api.Value) (api.Value, api.Errno) {
	b := books{w, r}
	p, e := b.named(name)
	if e != api.OK {
		return api.Value{}, e
	}
	if e := value.Typed(w, name, v); e != api.OK {
		return api.Value{}, e
	}
	if flaws, _ := Flaws(w, r, name); len(flaws) > 0 {
		return api.Value{}, api.ErrBreaks
	}
	out := b.project(p, v)
	// Only the whole tells this: least values may have made it larger than what was handed in.
	if depth, count := value.Size(out); depth > api.MaxDepth || count > api.MaxCount {
		return api.Value{}, api.ErrLong
	}
	return out, api.OK
}

// project is what the reader's message of a pair without flaws has of a typed value.
func (b books) project(p pair, v api.Value) api.Value {
	out := api.Value{Kind: api.IsMessage}
	put := putter(&out)
	for _, g := range p.r.Fields {
		known := b.projectField(p, g, v)
		put(g.Id, known...)
		if len(known) == 0 && g.Rule == api.One {
			put(g.Id, least(b.r, p.r, g.Id))
		}
	}
	return out
}

// projectField is what one of the reader's fields has of a message, in its order.
func (b books) projectField(p pair, g api.Field, v api.Value) []api.Value {
	f, ok := book.FieldOf(p.w, g.Id)
	if !ok {
		return nil
	}
	var l []api.Value
	for i, id := range v.Ids {
		if id == g.Id {
			l = append(l, b.projectOne(f, g, v.L[i]))
		}
	}
	return l
}

func (b books) projectOne(f, g api.Field, v api.Value) api.Value {
	if f.Kind == api.Message {
		return b.project(b.within(f, g), v)
	}
	// Not v itself: its lists are empty, but may have the caller's spare room.
	return api.Value{Kind: v.Kind, N: v.N, S: v.S}
}
