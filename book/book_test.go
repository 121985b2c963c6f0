package book_test

import (
	"math"
	"reflect"
	"strings"
	"testing"

	"patternbook/api"
	"patternbook/book"
)

// P1.1

func TestNamedTakesOneToTwelveLetters(t *testing.T) {
	for _, s := range []string{"a", "z", "az", "abcdefghijkl", "zzzzzzzzzzzz", "ones", "on", "messages", "goner", "intx", "boo", "textt", "enums", "man", "may"} {
		if !book.Named(s) {
			t.Errorf("%q is no name", s)
		}
	}
	for c := 'a'; c <= 'z'; c++ {
		if !book.Named(string(c)) {
			t.Errorf("%q is no name", c)
		}
	}
}

func TestNamedRefusesLengths(t *testing.T) {
	for _, s := range []string{"", "abcdefghijklm", strings.Repeat("a", 5000)} {
		if book.Named(s) {
			t.Errorf("%q is a name", s)
		}
	}
}

func TestNamedRefusesEachByteThatIsNoLetter(t *testing.T) {
	for c := 0; c < 256; c++ {
		want := c >= 'a' && c <= 'z'
		for _, s := range []string{string([]byte{byte(c)}), string([]byte{'x', byte(c)}), string([]byte{byte(c), 'x'}), string([]byte{'x', byte(c), 'x'})} {
			if book.Named(s) != want {
				t.Errorf("Named(%q) is %v", s, !want)
			}
		}
	}
}

func TestNamedRefusesWords(t *testing.T) {
	for _, s := range []string{"bool", "enum", "gone", "int", "many", "maybe", "message", "one", "text"} {
		if book.Named(s) {
			t.Errorf("%q is a name", s)
		}
	}
}

// P1.2

func TestFindIsTheFirstOfThatName(t *testing.T) {
	b := api.Book{Types: []api.Type{
		{Name: "b", Gone: []int{4}},
		{Name: "a", Enum: true, Items: []api.Item{{Name: "x", N: 1}}},
		{Name: "a", Fields: []api.Field{{Id: 1}}},
		{Name: ""},
	}}
	for i, name := range []string{"b", "a"} {
		if got, ok := book.Find(b, name); !ok || !reflect.DeepEqual(got, b.Types[i]) {
			t.Errorf("%q: %+v, %v", name, got, ok)
		}
	}
	if got, ok := book.Find(b, ""); !ok || got.Name != "" {
		t.Errorf("%+v, %v", got, ok)
	}
	for _, name := range []string{"c", "A", "aa", "b "} {
		if got, ok := book.Find(b, name); ok || !reflect.DeepEqual(got, api.Type{}) {
			t.Errorf("%q: %+v, %v", name, got, ok)
		}
	}
	if _, ok := book.Find(api.Book{}, ""); ok {
		t.Error("a type of no book")
	}
}

func TestFindHandsOutListsOfItsOwn(t *testing.T) {
	b := api.Book{Types: []api.Type{{
		Name:   "a",
		Fields: []api.Field{{Id: 1, Name: "x"}},
		Gone:   []int{2},
		Items:  []api.Item{{Name: "i", N: 3}},
	}}}
	got, _ := book.Find(b, "a")
	got.Fields[0].Id, got.Gone[0], got.Items[0].N = 7, 7, 7
	if a := b.Types[0]; a.Fields[0].Id != 1 || a.Gone[0] != 2 || a.Items[0].N != 3 {
		t.Errorf("the book was changed: %+v", a)
	}
}

func TestFieldOfIsTheFirstOfThatId(t *testing.T) {
	m := api.Type{Fields: []api.Field{{Id: 3, Name: "x"}, {Id: -1, Name: "y"}, {Id: 3, Name: "z"}, {Id: math.MaxInt, Name: "w"}}, Gone: []int{5}}
	for id, name := range map[int]string{3: "x", -1: "y", math.MaxInt: "w"} {
		if f, ok := book.FieldOf(m, id); !ok || f.Name != name || f.Id != id {
			t.Errorf("%d: %+v, %v", id, f, ok)
		}
	}
	for _, id := range []int{0, 1, 5, math.MinInt} {
		if f, ok := book.FieldOf(m, id); ok || f != (api.Field{}) {
			t.Errorf("%d: %+v, %v", id, f, ok)
		}
	}
}

func TestMeansIsWhetherAnItemHasTheNumber(t *testing.T) {
	e := api.Type{Enum: true, Items: []api.Item{{Name: "a", N: -2}, {Name: "b", N: 7}, {Name: "c", N: math.MinInt}}}
	for _, n := range []int{-2, 7, math.MinInt} {
		if !book.Means(e, n) {
			t.Errorf("%d means nothing", n)
		}
	}
	for _, n := range []int{0, 2, 8, math.MaxInt} {
		if book.Means(e, n) {
			t.Errorf("%d means something", n)
		}
	}
	if book.Means(api.Type{Enum: true}, 0) || book.Means(api.Type{Fields: []api.Field{{Id: 1}}, Gone: []int{1}}, 1) {
		t.Error("a number of a type without items means something")
	}
}
