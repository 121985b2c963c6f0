package merge

import (
	"slices"

	"patternbook/api"
	"patternbook/book"
)

// types: those of one name, as it was, and as two have made it. One that is not there has no name, and nothing in it.
type types struct {
	name      string
	was, a, b api.Type
}

func typesOf(name string, was, a, b api.Book) types {
	in := func(x api.Book) api.Type {
		t, _ := book.Find(x, name)
		return t
	}
	return types{name: name, was: in(was), a: in(a), b: in(b)}
}

// merged is the type that comes of them, whether it is there, and its flaws.
func (s types) merged() (api.Type, bool, []api.Flaw) {
	kept, ok := settle(typeIn(s.was), typeIn(s.a), typeIn(s.b))
	if !ok {
		return api.Type{}, false, []api.Flaw{s.flaw(0)}
	}
	t := api.Type{Name: s.name, Enum: kept.enum}
	flaws := append(s.mergeFields(&t), s.mergeItems(&t)...)
	if len(flaws) == 0 && misplaced(kept, t) {
		flaws = append(flaws, s.flaw(0))
	}
	return t, kept.there, flaws
}

// flaw of an id or a number; 0: of the name (or of the number 0).
func (s types) flaw(n int) api.Flaw { return api.Flaw{Type: s.name, Id: n} }

// mergeFields puts fields and gone ids into a type, and tells the ids that are flaws.
func (s types) mergeFields(t *api.Type) []api.Flaw {
	var flaws []api.Flaw
	for id := 1; id <= api.MaxId; id++ {
		kept, ok := settle(fieldIn(s.was, id), fieldIn(s.a, id), fieldIn(s.b, id))
		// Of yes and no two that are not as it was are alike: this is always settled.
		gone, _ := settle(isGone(s.was, id), isGone(s.a, id), isGone(s.b, id))
		if !ok || kept.there && gone {
			flaws = append(flaws, s.flaw(id))
			continue
		}
		if kept.there {
			t.Fields = append(t.Fields, kept.field)
		}
		if gone {
			t.Gone = append(t.Gone, id)
		}
	}
	return flaws
}

// mergeItems puts items into a type, and tells the numbers that are flaws.
func (s types) mergeItems(t *api.Type) []api.Flaw {
	var flaws []api.Flaw
	for _, n := range s.numbers() {
		kept, ok := settle(itemIn(s.was, n), itemIn(s.a, n), itemIn(s.b, n))
		if !ok {
			flaws = append(flaws, s.flaw(n))
			continue
		}
		if kept.there {
			t.Items = append(t.Items, kept.item)
		}
	}
	return flaws
}

// numbers is the number of each item that one of the types has, rising, each once.
func (s types) numbers() []int {
	var l []int
	for _, t := range [3]api.Type{s.was, s.a, s.b} {
		for _, item := range t.Items {
			l = append(l, item.N)
		}
	}
	slices.Sort(l)
	return slices.Compact(l)
}

// misplaced is whether a type has what it may not have, as one has put it in, and the other one has taken the type out or made the other kind of it.
func misplaced(kept typeThing, t api.Type) bool {
	ids := len(t.Fields) > 0 || len(t.Gone) > 0
	items := len(t.Items) > 0
	switch {
	case !kept.there:
		return ids || items
	case kept.enum:
		return ids
	}
	return items
}
