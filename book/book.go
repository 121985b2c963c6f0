// Package book: see ../../shared/doc/01-book.md.
package book

import (
	"slices"

	"patternbook/api"
)

// words have a meaning of their own in a book's text, so nothing may be named so.
var words = [9]string{"bool", "enum", "gone", "int", "many", "maybe", "message", "one", "text"}

// Named is whether a text may be a name.
func Named(s string) bool {
	if len(s) < 1 || len(s) > api.MaxName {
		return false
	}
	for i := range len(s) {
		if !isLetter(s[i]) {
			return false
		}
	}
	for _, w := range words {
		if s == w {
			return false
		}
	}
	return true
}

func isLetter(c byte) bool { return c >= 'a' && c <= 'z' }

// Find is the type of a name.
func Find(b api.Book, name string) (api.Type, bool) {
	t, ok := lookUp(b, name)
	// Whoever changes what was found must not change the book by that.
	t.Fields = slices.Clone(t.Fields)
	t.Gone = slices.Clone(t.Gone)
	t.Items = slices.Clone(t.Items)
	return t, ok
}

// lookUp is Find for those within the package, who change nothing: its lists are the book's own.
func lookUp(b api.Book, name string) (api.Type, bool) {
	for _, t := range b.Types {
		if t.Name == name {
			return t, true
		}
	}
	return api.Type{}, false
}

// FieldOf is the field of a number.
func FieldOf(t api.Type, id int) (api.Field, bool) {
	for _, f := range t.Fields {
		if f.Id == id {
			return f, true
		}
	}
	return api.Field{}, false
}

// Means is whether a number is an item of an enum.
func Means(t api.Type, n int) bool {
	for _, item := range t.Items {
		if item.N == n {
			return true
		}
	}
	return false
}
