package value

import (
	"slices"

	"patternbook/api"
	"patternbook/book"
	"patternbook/wire"
)

// Encode is the bytes of a value of a type.
func Encode(b api.Book, name string, v api.Value) (string, api.Errno) {
	if e := Typed(b, name, v); e != api.OK {
		return "", e
	}
	return write(v)
}

// write needs no book: what is typed has the kinds that its fields have.
func write(v api.Value) (string, api.Errno) {
	var parts []api.Part
	for i, x := range v.L {
		p := api.Part{Id: v.Ids[i], Kind: x.Kind, N: x.N, S: x.S}
		if x.Kind == api.IsMessage {
			s, e := write(x)
			if e != api.OK {
				return "", e
			}
			p.S = s
		}
		parts = append(parts, p)
	}
	return wire.Encode(parts)
}

// Decode is the value of a type that bytes tell; what the type does not know is gone past, what lacks is the least.
func Decode(b api.Book, name, s string) (api.Value, api.Errno) {
	t, e := messageOf(b, name)
	if e != api.OK {
		return api.Value{}, e
	}
	v, e := read(b, t, s, 1)
	if e != api.OK {
		return api.Value{}, e
	}
	// Only the whole tells this: least values may have made it larger than its bytes look.
	if tooLarge(v) {
		return api.Value{}, api.ErrLong
	}
	return v, api.OK
}

// read is a message that stands so deep, of its bytes.
func read(b api.Book, t api.Type, s string, depth int) (api.Value, api.Errno) {
	parts, e := wire.Decode(s)
	if e != api.OK {
		return api.Value{}, e
	}
	v := api.Value{Kind: api.IsMessage}
	for i, p := range parts {
		if i > 0 && parts[i-1].Id > p.Id {
			return api.Value{}, api.ErrForm
		}
		f, ok := book.FieldOf(t, p.Id)
		if !ok {
			continue
		}
		x := bare(p)
		if e := wrongOne(b, f, x); e != api.OK {
			return api.Value{}, e
		}
		if f.Rule != api.Many && slices.Contains(v.Ids, f.Id) {
			return api.Value{}, api.ErrTwice
		}
		if f.Kind == api.Message {
			x, e = readWithin(b, f, p.S, depth+1)
			if e != api.OK {
				return api.Value{}, e
			}
		}
		v.Ids = append(v.Ids, f.Id)
		v.L = append(v.L, x)
	}
	return filled(b, t, v), api.OK
}

// readWithin is a field's message. How deep it stands is asked first, for bytes may hold far more messages, one in another, than may be.
func readWithin(b api.Book, f api.Field, s string, depth int) (api.Value, api.Errno) {
	if depth > api.MaxDepth {
		return api.Value{}, api.ErrLong
	}
	return read(b, typeOf(b, f), s, depth)
}

// bare is the value of a part; a message's is still without what its bytes tell, which are no text of its own.
func bare(p api.Part) api.Value {
	v := api.Value{Kind: p.Kind, N: p.N}
	if p.Kind == api.IsText {
		v.S = p.S
	}
	return v
}

// filled is a message with the least of what lacks; v's lists are the caller's no more.
func filled(b api.Book, t api.Type, v api.Value) api.Value {
	for _, f := range t.Fields {
		at, found := slices.BinarySearch(v.Ids, f.Id)
		if f.Rule == api.One && !found {
			v.Ids = slices.Insert(v.Ids, at, f.Id)
			v.L = slices.Insert(v.L, at, leastOne(b, f))
		}
	}
	return v
}
