package merge

import (
	"slices"

	"patternbook/api"
	"patternbook/book"
)

// Things that are kept are compared as a whole, also by whether they are there.

// typeThing: whether there is a type of a name, and an enum or a message.
type typeThing struct{ there, enum bool }

// fieldThing: the field of an id.
type fieldThing struct {
	there bool
	field api.Field
}

// itemThing: the item of a number.
type itemThing struct {
	there bool
	item  api.Item
}

func typeIn(t api.Type) typeThing { return typeThing{there: t.Name != "", enum: t.Enum} }

func fieldIn(t api.Type, id int) fieldThing {
	f, ok := book.FieldOf(t, id)
	return fieldThing{there: ok, field: f}
}

func itemIn(t api.Type, n int) itemThing {
	for _, item := range t.Items {
		if item.N == n {
			return itemThing{there: true, item: item}
		}
	}
	return itemThing{}
}

func isGone(t api.Type, id int) bool { return slices.Contains(t.Gone, id) }

// settle is what a thing is that two have made of one; false: both have changed it.
func settle[T comparable](was, a, b T) (T, bool) {
	switch {
	case a == b, b == was:
		return a, true
	case a == was:
		return b, true
	}
	var none T
	return none, false
}
