package book

import (
	"slices"

	"patternbook/api"
)

// Good is what is wrong with a book.
func Good(b api.Book) api.Errno {
	if len(b.Types) > api.MaxTypes {
		return api.ErrLong
	}
	for i, t := range b.Types {
		if i > 0 && b.Types[i-1].Name >= t.Name {
			return api.ErrForm
		}
		if !goodType(b, t) {
			return api.ErrForm
		}
	}
	for _, t := range b.Types {
		if !t.Enum && !goodLeast(Least(b, t.Name)) {
			return api.ErrLong
		}
	}
	return api.OK
}

func goodLeast(n int) bool { return n >= 1 && n <= api.MaxLeast }

func goodType(b api.Book, t api.Type) bool {
	if !Named(t.Name) {
		return false
	}
	if t.Enum {
		return goodEnum(t)
	}
	return goodMessage(b, t)
}

func goodEnum(t api.Type) bool {
	if len(t.Fields) > 0 || len(t.Gone) > 0 {
		return false
	}
	if len(t.Items) < 1 || len(t.Items) > api.MaxItems {
		return false
	}
	var names []string
	var numbers []int
	for _, item := range t.Items {
		names = append(names, item.Name)
		numbers = append(numbers, item.N)
	}
	return goodNames(names) && rising(numbers, -api.MaxNumber, api.MaxNumber)
}

func goodMessage(b api.Book, t api.Type) bool {
	if len(t.Items) > 0 || len(t.Fields) > api.MaxFields {
		return false
	}
	var names []string
	var ids []int
	for _, f := range t.Fields {
		if !goodField(b, f) {
			return false
		}
		names = append(names, f.Name)
		ids = append(ids, f.Id)
	}
	return goodNames(names) && goodIds(ids, t.Gone)
}

func goodField(b api.Book, f api.Field) bool {
	if f.Rule < api.One || f.Rule > api.Many {
		return false
	}
	switch f.Kind {
	case api.Bool, api.Int, api.Text:
		return f.Type == ""
	case api.Enum, api.Message:
		t, ok := lookUp(b, f.Type)
		return ok && t.Enum == (f.Kind == api.Enum)
	}
	return false
}

func goodIds(ids, gone []int) bool {
	if !rising(ids, 1, api.MaxId) || !rising(gone, 1, api.MaxId) {
		return false
	}
	for _, id := range ids {
		if slices.Contains(gone, id) {
			return false
		}
	}
	return true
}

// goodNames is whether all are names, each once; it is asked of short lists only, for it holds each against all.
func goodNames(names []string) bool {
	for i, s := range names {
		if !Named(s) || slices.Contains(names[:i], s) {
			return false
		}
	}
	return true
}

// rising is whether numbers rise, each once, and none is out of its bounds.
func rising(l []int, low, high int) bool {
	for i, n := range l {
		if n < low || n > high {
			return false
		}
		if i > 0 && n <= l[i-1] {
			return false
		}
	}
	return true
}

// Least is how many values there are in the least one of a message: itself, and what is always there; 0, if that never ends, or there is none such.
func Least(b api.Book, name string) int { return leastWithin(b, name, api.MaxTypes) }

// leastWithin is Least where only so many messages may stand one in another: a message that needs itself would never end else.
func leastWithin(b api.Book, name string, messages int) int {
	if messages < 1 {
		return 0
	}
	t, ok := lookUp(b, name)
	if !ok || t.Enum || len(t.Fields) > api.MaxFields {
		return 0
	}
	sum := 1
	for _, f := range t.Fields {
		if f.Rule != api.One {
			continue
		}
		n := 1
		if f.Kind == api.Message {
			n = leastWithin(b, f.Type, messages-1)
		}
		if n == 0 {
			return 0
		}
		sum += n
	}
	return sum
}
