package value

import (
	"patternbook/api"
	"patternbook/book"
)

// Least is the least value of a type: what is always there, as little as may be.
func Least(b api.Book, name string) (api.Value, api.Errno) {
	t, e := messageOf(b, name)
	if e != api.OK {
		return api.Value{}, e
	}
	return leastMessage(b, t), api.OK
}

// LeastOf is the least value of a field of a type.
func LeastOf(b api.Book, name string, id int) (api.Value, api.Errno) {
	t, e := messageOf(b, name)
	if e != api.OK {
		return api.Value{}, e
	}
	f, ok := book.FieldOf(t, id)
	if !ok {
		return api.Value{}, api.ErrNone
	}
	return leastOne(b, f), api.OK
}

// leastMessage ends in a good book: there no message needs itself.
func leastMessage(b api.Book, t api.Type) api.Value {
	v := api.Value{Kind: api.IsMessage}
	for _, f := range t.Fields {
		if f.Rule == api.One {
			v.Ids = append(v.Ids, f.Id)
			v.L = append(v.L, leastOne(b, f))
		}
	}
	return v
}

func leastOne(b api.Book, f api.Field) api.Value {
	switch f.Kind {
	case api.Enum:
		return api.Value{Kind: api.IsNumber, N: typeOf(b, f).Items[0].N}
	case api.Message:
		return leastMessage(b, typeOf(b, f))
	}
	return api.Value{Kind: Kind(f.Kind)}
}
