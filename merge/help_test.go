package merge_test

import (
	"slices"
	"testing"

	"patternbook/api"
	"patternbook/book"
	"patternbook/merge"
)

func parse(t testing.TB, s string) api.Book {
	t.Helper()
	b, e := book.Parse(s)
	if e != api.OK {
		t.Fatalf("%s: %d", s, e)
	}
	return b
}

// flaw is shorter to write than its struct.
func flaw(name string, id int) api.Flaw { return api.Flaw{Type: name, Id: id} }

// printed is a good book's text, by which two are compared without asking Same.
func printed(t testing.TB, b api.Book) string {
	t.Helper()
	s, e := book.Print(b)
	if e != api.OK {
		t.Fatalf("%+v: %d", b, e)
	}
	return s
}

// mergeCase: what comes of was, a and b: the book want, or an error, with flaws if it is ErrConflict.
type mergeCase struct {
	what, was, a, b, want string
	flaws                 []api.Flaw
	e                     api.Errno
}

// conflict is a case that ends with flaws.
func conflict(what, was, a, b string, flaws ...api.Flaw) mergeCase {
	return mergeCase{what: what, was: was, a: a, b: b, flaws: flaws, e: api.ErrConflict}
}

func merges(what, was, a, b, want string) mergeCase {
	return mergeCase{what: what, was: was, a: a, b: b, want: want}
}

func fails(what, was, a, b string, e api.Errno) mergeCase {
	return mergeCase{what: what, was: was, a: a, b: b, e: e}
}

// check asks each case both ways round: it is nowhere said that one of the two comes first.
func check(t *testing.T, cases []mergeCase) {
	t.Helper()
	for _, c := range cases {
		was, a, b := parse(t, c.was), parse(t, c.a), parse(t, c.b)
		checkBooks(t, c, was, a, b)
		checkBooks(t, c, was, b, a)
	}
}

func checkBooks(t *testing.T, c mergeCase, was, a, b api.Book) {
	t.Helper()
	x, l, e := merge.Books(was, a, b)
	if e != c.e || !slices.Equal(l, c.flaws) {
		t.Errorf("%s: %+v, %+v, %d; wanted %+v, %d", c.what, x, l, e, c.flaws, c.e)
		return
	}
	if e != api.OK {
		if len(x.Types) != 0 {
			t.Errorf("%s: with error %d: %+v", c.what, e, x)
		}
		return
	}
	want := parse(t, c.want)
	if got := printed(t, x); got != printed(t, want) {
		t.Errorf("%s: %s", c.what, got)
	}
	if !merge.Same(x, want) || !merge.Same(want, x) {
		t.Errorf("%s: not the same: %+v", c.what, x)
	}
}

// copied is a book alike, of its own memory, without spare room.
func copied(b api.Book) api.Book {
	var l []api.Type
	for _, t := range b.Types {
		t.Fields = slices.Clip(slices.Clone(t.Fields))
		t.Gone = slices.Clip(slices.Clone(t.Gone))
		t.Items = slices.Clip(slices.Clone(t.Items))
		l = append(l, t)
	}
	return api.Book{Types: slices.Clip(l)}
}

// notGood are books that are not, whether Good says ErrForm or ErrLong of them.
func notGood() map[string]api.Book {
	field := func(kind int, name string, rule int) []api.Field {
		return []api.Field{{Id: 1, Name: "f", Type: name, Kind: kind, Rule: rule}}
	}
	return map[string]api.Book{
		"a type without a name":       {Types: []api.Type{{}}},
		"names that fall":             {Types: []api.Type{{Name: "b"}, {Name: "a"}}},
		"a type twice":                {Types: []api.Type{{Name: "a"}, {Name: "a"}}},
		"a field of no kind":          {Types: []api.Type{{Name: "a", Fields: field(0, "", api.One)}}},
		"a field of no rule":          {Types: []api.Type{{Name: "a", Fields: field(api.Int, "", 4)}}},
		"an enum that is not there":   {Types: []api.Type{{Name: "a", Fields: field(api.Enum, "e", api.One)}}},
		"an id that is gone":          {Types: []api.Type{{Name: "a", Fields: field(api.Int, "", api.One), Gone: []int{1}}}},
		"a gone id beyond all":        {Types: []api.Type{{Name: "a", Gone: []int{api.MaxId + 1}}}},
		"a message with items":        {Types: []api.Type{{Name: "a", Items: []api.Item{{Name: "x"}}}}},
		"an enum with gone ids":       {Types: []api.Type{{Name: "a", Enum: true, Gone: []int{1}, Items: []api.Item{{Name: "x"}}}}},
		"an enum of nothing":          {Types: []api.Type{{Name: "a", Enum: true}}},
		"more types than may be":      {Types: []api.Type{{Name: "a"}, {Name: "b"}, {Name: "c"}, {Name: "d"}, {Name: "e"}}},
		"a message that needs itself": {Types: []api.Type{{Name: "a", Fields: field(api.Message, "a", api.One)}}},
	}
}
