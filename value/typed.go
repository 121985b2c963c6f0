package value

import (
	"slices"

	"patternbook/api"
	"patternbook/book"
)

// Typed is what is wrong with a value as one of a type of a good book.
func Typed(b api.Book, name string, v api.Value) api.Errno {
	t, e := messageOf(b, name)
	if e != api.OK {
		return e
	}
	// Asked ahead of all else, so that what goes through the value ends.
	if tooLarge(v) {
		return api.ErrLong
	}
	return wrongMessage(b, t, v)
}

// wrongMessage is what is wrong with a value as one of a message, and with those in it.
func wrongMessage(b api.Book, t api.Type, v api.Value) api.Errno {
	if v.Kind != api.IsMessage {
		return api.ErrWire
	}
	if len(v.L) != len(v.Ids) || !ofOneKind(v) {
		return api.ErrForm
	}
	for i, id := range v.Ids {
		f, ok := book.FieldOf(t, id)
		if !ok {
			return api.ErrNone
		}
		if e := wrongOrder(f, v.Ids[:i]); e != api.OK {
			return e
		}
		if e := wrongOne(b, f, v.L[i]); e != api.OK {
			return e
		}
		if f.Kind != api.Message {
			continue
		}
		if e := wrongMessage(b, typeOf(b, f), v.L[i]); e != api.OK {
			return e
		}
	}
	if lacksOne(t, v.Ids) {
		return api.ErrNone
	}
	return api.OK
}

// wrongOrder is what is wrong with a field behind those whose ids stand ahead of it.
func wrongOrder(f api.Field, ahead []int) api.Errno {
	if len(ahead) == 0 {
		return api.OK
	}
	last := ahead[len(ahead)-1]
	if last > f.Id {
		return api.ErrForm
	}
	if last == f.Id && f.Rule != api.Many {
		return api.ErrTwice
	}
	return api.OK
}

func lacksOne(t api.Type, ids []int) bool {
	for _, f := range t.Fields {
		if f.Rule == api.One && !slices.Contains(ids, f.Id) {
			return true
		}
	}
	return false
}

// wrongOne is what is wrong with a value as one of a field, whatever stands in it.
func wrongOne(b api.Book, f api.Field, v api.Value) api.Errno {
	if v.Kind != Kind(f.Kind) {
		return api.ErrWire
	}
	if !ofOneKind(v) {
		return api.ErrForm
	}
	switch f.Kind {
	case api.Bool:
		if v.N != 0 && v.N != 1 {
			return api.ErrItem
		}
	case api.Int:
		if v.N < -api.MaxNumber || v.N > api.MaxNumber {
			return api.ErrRange
		}
	case api.Text:
		if !goodText(v.S) {
			return api.ErrForm
		}
	case api.Enum:
		if !book.Means(typeOf(b, f), v.N) {
			return api.ErrItem
		}
	}
	return api.OK
}

// ofOneKind is whether a value has nothing that only values of other kinds have.
func ofOneKind(v api.Value) bool {
	if v.Kind != api.IsMessage && (len(v.Ids) > 0 || len(v.L) > 0) {
		return false
	}
	if v.Kind != api.IsNumber && v.N != 0 {
		return false
	}
	return v.Kind == api.IsText || v.S == ""
}

func goodText(s string) bool {
	if len(s) > api.MaxText {
		return false
	}
	for i := range len(s) {
		if s[i] > 127 {
			return false
		}
	}
	return true
}
