package compat

import (
	"patternbook/api"
	"patternbook/book"
	"patternbook/value"
)

// whys is each reason, rising, why a field of the writer's cannot be read as the reader's.
func (b books) whys(f, g api.Field) []int {
	var l []int
	tell := func(why int, holds bool) {
		if holds {
			l = append(l, why)
		}
	}
	_, strange := b.strange(f, g)
	tell(api.OtherKind, value.Kind(f.Kind) != value.Kind(g.Kind))
	tell(api.NotMany, f.Rule == api.Many && g.Rule != api.Many)
	tell(api.NoItem, strange)
	return l
}

// strange is a number that the writer's field may have, and the reader's cannot.
func (b books) strange(f, g api.Field) (int, bool) {
	if value.Kind(f.Kind) != api.IsNumber || value.Kind(g.Kind) != api.IsNumber {
		return 0, false
	}
	has := holder(b.r, g)
	for _, n := range samples(b.w, f) {
		if !has(n) {
			return n, true
		}
	}
	return 0, false
}

// holder is what tells whether a field may have a number.
func holder(b api.Book, f api.Field) func(int) bool {
	switch f.Kind {
	case api.Bool:
		return func(n int) bool { return n == 0 || n == 1 }
	case api.Enum:
		t := typeOf(b, f)
		return func(n int) bool { return book.Means(t, n) }
	}
	return func(int) bool { return true }
}

// samples are the numbers that a field may have. Those of an Int are too many: one more than an enum has items is enough, as what cannot have all numbers lacks one of them then.
func samples(b api.Book, f api.Field) []int {
	var l []int
	switch f.Kind {
	case api.Bool:
		l = append(l, 0, 1)
	case api.Enum:
		for _, item := range typeOf(b, f).Items {
			l = append(l, item.N)
		}
	default:
		for n := range api.MaxItems + 1 {
			l = append(l, n)
		}
	}
	return l
}
