package merge_test

import (
	"fmt"
	"testing"

	"patternbook/api"
	"patternbook/merge"
)

// P5.1

// different are books of which no two are alike: each but the first few has one thing that the one it was made of has not.
func different(t *testing.T) []api.Book {
	full := func() api.Book {
		return parse(t, "message a{1 one int x;2 many e y;gone 5 7;}enum e{0 p;3 q;}message m{}")
	}
	l := []api.Book{{}, full()}
	change := func(f func(b *api.Book)) {
		b := full()
		f(&b)
		l = append(l, b)
	}
	change(func(b *api.Book) { b.Types = b.Types[:2] })
	change(func(b *api.Book) { b.Types = b.Types[1:] })
	change(func(b *api.Book) { b.Types = append(b.Types, api.Type{Name: "n"}) })
	change(func(b *api.Book) { b.Types = append(b.Types, api.Type{}) })
	change(func(b *api.Book) { b.Types[2].Name = "n" })
	change(func(b *api.Book) { b.Types[2].Enum = true })
	change(func(b *api.Book) { b.Types[0].Fields = b.Types[0].Fields[:1] })
	change(func(b *api.Book) { b.Types[0].Fields = nil })
	change(func(b *api.Book) { b.Types[0].Fields[0].Id = 3 })
	change(func(b *api.Book) { b.Types[0].Fields[0].Name = "z" })
	change(func(b *api.Book) { b.Types[0].Fields[1].Type = "f" })
	change(func(b *api.Book) { b.Types[0].Fields[1].Kind = api.Message })
	change(func(b *api.Book) { b.Types[0].Fields[1].Rule = api.Maybe })
	change(func(b *api.Book) { b.Types[0].Gone = b.Types[0].Gone[:1] })
	change(func(b *api.Book) { b.Types[0].Gone[1] = 8 })
	change(func(b *api.Book) { b.Types[2].Gone = []int{1} })
	change(func(b *api.Book) { b.Types[1].Items = b.Types[1].Items[:1] })
	change(func(b *api.Book) { b.Types[1].Items[0].Name = "r" })
	change(func(b *api.Book) { b.Types[1].Items[0].N = -1 })
	change(func(b *api.Book) { b.Types[2].Items = []api.Item{{}} })
	change(func(b *api.Book) { b.Types[2].Fields = []api.Field{{}} })
	return l
}

func TestSame(t *testing.T) {
	for i, a := range different(t) {
		for j, b := range different(t) {
			if merge.Same(a, b) != (i == j) {
				t.Errorf("%d, %d: %+v\n%+v", i, j, a, b)
			}
		}
	}
}

func TestSameOfListsWithoutElements(t *testing.T) {
	none := api.Book{Types: []api.Type{{Name: "a"}}}
	empty := api.Book{Types: []api.Type{{Name: "a", Fields: []api.Field{}, Gone: []int{}, Items: []api.Item{}}}}
	if !merge.Same(none, empty) || !merge.Same(empty, none) || !merge.Same(api.Book{}, api.Book{Types: []api.Type{}}) {
		t.Error("a list without elements may be nil or not")
	}
}

// Same is asked of any books, good or not.
func TestSameOfBooksThatAreNotGood(t *testing.T) {
	for what, a := range notGood() {
		for other, b := range notGood() {
			if merge.Same(a, b) != (what == other) {
				t.Errorf("%s, %s", what, other)
			}
		}
	}
}

// Each thing, with each of the ways in which three may have it: as a and b have it, as the other one has it, or changed by both.
func TestEachThingByAllThree(t *testing.T) {
	for _, thing := range []struct {
		what string
		has  []string
		at   api.Flaw
	}{
		{"a type", []string{"", "message n{}", "enum n{0 p;}"}, flaw("n", 0)},
		{"a field", []string{"message n{}", "message n{4 one int x;}", "message n{4 one int y;}", "message n{4 many int x;}", "message n{4 one text x;}", "message n{4 one m x;}", "message n{4 one e x;}"}, flaw("n", 4)},
		{"an item", []string{"enum n{0 p;}", "enum n{0 p;-9 q;}", "enum n{0 p;-9 r;}", "enum n{0 p;-9 s;}"}, flaw("n", -9)},
		{"a gone id", []string{"message n{}", "message n{gone 4;}"}, api.Flaw{}},
	} {
		const rest = "enum e{0 x;}message m{}"
		for _, was := range thing.has {
			for _, a := range thing.has {
				for _, b := range thing.has {
					c := mergeCase{what: fmt.Sprintf("%s: %q, %q, %q", thing.what, was, a, b), was: was + rest, a: a + rest, b: b + rest}
					switch {
					case a == b, b == was:
						c.want = a + rest
					case a == was:
						c.want = b + rest
					default:
						c.e, c.flaws = api.ErrConflict, []api.Flaw{thing.at}
					}
					checkBooks(t, c, parse(t, c.was), parse(t, c.a), parse(t, c.b))
				}
			}
		}
	}
}
