package book_test

import (
	"math"
	"testing"

	"patternbook/api"
	"patternbook/book"
)

func plain(id int, name string) api.Field {
	return api.Field{Id: id, Name: name, Kind: api.Int, Rule: api.One}
}

func message(name string, fields ...api.Field) api.Type {
	return api.Type{Name: name, Fields: fields}
}

func enum(name string, items ...api.Item) api.Type {
	return api.Type{Name: name, Enum: true, Items: items}
}

func books(types ...api.Type) api.Book { return api.Book{Types: types} }

// sample is a good book that has each kind, each rule, gone ids, and a message that may be in itself.
func sample() api.Book {
	return books(
		api.Type{Name: "big", Fields: []api.Field{
			{Id: 1, Name: "yes", Kind: api.Bool, Rule: api.One},
			{Id: 4, Name: "count", Kind: api.Int, Rule: api.Maybe},
			{Id: 9, Name: "words", Kind: api.Text, Rule: api.Many},
			{Id: 11, Name: "color", Type: "hue", Kind: api.Enum, Rule: api.One},
			{Id: 30, Name: "next", Type: "big", Kind: api.Message, Rule: api.Maybe},
		}, Gone: []int{2, 3, 29}},
		enum("hue", api.Item{Name: "red", N: -api.MaxNumber}, api.Item{Name: "green", N: 0}, api.Item{Name: "blue", N: api.MaxNumber}),
		api.Type{Name: "none"},
	)
}

type goodCase struct {
	what string
	b    api.Book
	want api.Errno
}

func check(t *testing.T, cases []goodCase) {
	t.Helper()
	for _, c := range cases {
		if e := book.Good(c.b); e != c.want {
			t.Errorf("Good, %s: %d, not %d", c.what, e, c.want)
		}
		if s, e := book.Print(c.b); e != c.want || (e != api.OK && s != "") {
			t.Errorf("Print, %s: %q, %d, not %d", c.what, s, e, c.want)
		}
	}
}

func numbered(n int) []api.Item {
	var l []api.Item
	for i := range n {
		l = append(l, api.Item{Name: string(rune('a' + i)), N: i})
	}
	return l
}

func fields(n int, rule int) []api.Field {
	var l []api.Field
	for i := range n {
		l = append(l, api.Field{Id: i + 1, Name: string(rune('a' + i)), Kind: api.Int, Rule: rule})
	}
	return l
}

func everyId() []int {
	var l []int
	for id := 1; id <= api.MaxId; id++ {
		l = append(l, id)
	}
	return l
}

// P1.3

func TestGoodTakesGoodBooks(t *testing.T) {
	check(t, []goodCase{
		{"nothing", api.Book{}, api.OK},
		{"an empty list", api.Book{Types: []api.Type{}}, api.OK},
		{"all kinds and rules", sample(), api.OK},
		{"empty lists", books(api.Type{Name: "a", Fields: []api.Field{}, Gone: []int{}, Items: []api.Item{}}), api.OK},
		{"as many types as may be", books(message("a"), message("b"), message("c"), enum("d", numbered(1)...)), api.OK},
		{"as many items as may be", books(enum("a", numbered(api.MaxItems)...)), api.OK},
		{"as many fields as may be", books(message("a", fields(api.MaxFields, api.One)...)), api.OK},
		{"all ids gone", books(api.Type{Name: "a", Gone: everyId()}), api.OK},
		{"a field named as its type", books(message("a", api.Field{Id: 1, Name: "a", Type: "a", Kind: api.Message, Rule: api.Many})), api.OK},
		{"items of one name in two enums", books(enum("a", numbered(2)...), enum("b", numbered(2)...)), api.OK},
		{"a name of twelve letters", books(message("abcdefghijkl", plain(1, "abcdefghijkl"))), api.OK},
	})
}

func TestGoodRefusesTooManyTypesAheadOfAllElse(t *testing.T) {
	check(t, []goodCase{
		{"five types", books(message("a"), message("b"), message("c"), message("d"), message("e")), api.ErrLong},
		{"five types, bad ones", books(message("z"), message(""), enum("z"), message("int"), message("a", plain(0, "int"))), api.ErrLong},
	})
}

func TestGoodRefusesTypes(t *testing.T) {
	check(t, []goodCase{
		{"no name", books(message("")), api.ErrForm},
		{"a word", books(message("message")), api.ErrForm},
		{"a great letter", books(enum("A", numbered(1)...)), api.ErrForm},
		{"thirteen letters", books(message("abcdefghijklm")), api.ErrForm},
		{"names fall", books(message("b"), message("a")), api.ErrForm},
		{"names fall at the end", books(message("a"), message("c"), message("b")), api.ErrForm},
		{"a name twice", books(message("a"), message("a")), api.ErrForm},
		{"a name of an enum and a message", books(enum("a", numbered(1)...), message("a")), api.ErrForm},
		{"the last type is bad", books(message("a"), message("b"), message("c", plain(1, ""))), api.ErrForm},
	})
}

func TestGoodRefusesEnums(t *testing.T) {
	item := func(name string, n int) api.Item { return api.Item{Name: name, N: n} }
	check(t, []goodCase{
		{"fields", books(api.Type{Name: "a", Enum: true, Items: numbered(1), Fields: fields(1, api.One)}), api.ErrForm},
		{"gone ids", books(api.Type{Name: "a", Enum: true, Items: numbered(1), Gone: []int{1}}), api.ErrForm},
		{"no items", books(enum("a")), api.ErrForm},
		{"seven items", books(enum("a", numbered(api.MaxItems+1)...)), api.ErrForm},
		{"an item without a name", books(enum("a", item("", 1))), api.ErrForm},
		{"an item that is a word", books(enum("a", item("x", 1), item("gone", 2))), api.ErrForm},
		{"two items of one name", books(enum("a", item("x", 1), item("y", 2), item("x", 3))), api.ErrForm},
		{"numbers fall", books(enum("a", item("x", 2), item("y", 1))), api.ErrForm},
		{"a number twice", books(enum("a", item("x", 1), item("y", 2), item("z", 2))), api.ErrForm},
		{"a number above", books(enum("a", item("x", api.MaxNumber+1))), api.ErrForm},
		{"a number below", books(enum("a", item("x", -api.MaxNumber-1))), api.ErrForm},
		{"the greatest number", books(enum("a", item("x", math.MaxInt))), api.ErrForm},
		{"the smallest number", books(enum("a", item("x", math.MinInt))), api.ErrForm},
	})
}

func TestGoodRefusesMessages(t *testing.T) {
	gone := func(f []api.Field, ids ...int) api.Book {
		return books(api.Type{Name: "a", Fields: f, Gone: ids})
	}
	check(t, []goodCase{
		{"items", books(api.Type{Name: "a", Items: numbered(1)}), api.ErrForm},
		{"six fields", books(message("a", fields(api.MaxFields+1, api.Maybe)...)), api.ErrForm},
		{"a field without a name", books(message("a", plain(1, ""))), api.ErrForm},
		{"a field that is a word", books(message("a", plain(1, "text"))), api.ErrForm},
		{"two fields of one name", books(message("a", plain(1, "x"), plain(2, "y"), plain(3, "x"))), api.ErrForm},
		{"ids fall", books(message("a", plain(2, "x"), plain(1, "y"))), api.ErrForm},
		{"an id twice", books(message("a", plain(1, "x"), plain(1, "y"))), api.ErrForm},
		{"id 0", books(message("a", plain(0, "x"))), api.ErrForm},
		{"id 31", books(message("a", plain(api.MaxId+1, "x"))), api.ErrForm},
		{"id below 0", books(message("a", plain(math.MinInt, "x"))), api.ErrForm},
		{"gone ids fall", gone(nil, 2, 1), api.ErrForm},
		{"a gone id twice", gone(nil, 2, 2), api.ErrForm},
		{"gone id 0", gone(nil, 0), api.ErrForm},
		{"gone id 31", gone(nil, 1, api.MaxId+1), api.ErrForm},
		{"an id that is gone", gone(fields(2, api.One), 2, 3), api.ErrForm},
		{"the last id is gone", gone([]api.Field{plain(1, "x"), plain(30, "y")}, 2, 30), api.ErrForm},
	})
}

func TestGoodRefusesFields(t *testing.T) {
	of := func(kind, rule int, typ string) api.Book {
		return books(enum("e", numbered(1)...), message("m"), message("q", api.Field{Id: 1, Name: "x", Type: typ, Kind: kind, Rule: rule}))
	}
	var cases []goodCase
	for _, n := range []int{math.MinInt, -1, 0, 4, math.MaxInt} {
		cases = append(cases, goodCase{"a rule that is none", of(api.Int, n, ""), api.ErrForm})
	}
	for _, n := range []int{math.MinInt, -1, 0, 6, math.MaxInt} {
		cases = append(cases, goodCase{"a kind that is none", of(n, api.One, ""), api.ErrForm})
		cases = append(cases, goodCase{"a kind that is none, of a type", of(n, api.One, "m"), api.ErrForm})
	}
	for _, kind := range []int{api.Bool, api.Int, api.Text} {
		for _, rule := range []int{api.One, api.Maybe, api.Many} {
			cases = append(cases, goodCase{"a plain kind", of(kind, rule, ""), api.OK})
			cases = append(cases, goodCase{"a plain kind, of an enum", of(kind, rule, "e"), api.ErrForm})
			cases = append(cases, goodCase{"a plain kind, of a message", of(kind, rule, "m"), api.ErrForm})
			cases = append(cases, goodCase{"a plain kind, of a word", of(kind, rule, "int"), api.ErrForm})
		}
	}
	for _, rule := range []int{api.One, api.Maybe, api.Many} {
		cases = append(cases,
			goodCase{"an enum", of(api.Enum, rule, "e"), api.OK},
			goodCase{"an enum that is a message", of(api.Enum, rule, "m"), api.ErrForm},
			goodCase{"an enum without a name", of(api.Enum, rule, ""), api.ErrForm},
			goodCase{"an enum that there is not", of(api.Enum, rule, "f"), api.ErrForm},
			goodCase{"a message", of(api.Message, rule, "m"), api.OK},
			goodCase{"a message that is an enum", of(api.Message, rule, "e"), api.ErrForm},
			goodCase{"a message without a name", of(api.Message, rule, ""), api.ErrForm},
			goodCase{"a message that there is not", of(api.Message, rule, "f"), api.ErrForm})
	}
	check(t, cases)
}

func TestGoodRefusesWhatIsNeverSmall(t *testing.T) {
	in := func(id int, typ string, rule int) api.Field {
		return api.Field{Id: id, Name: string(rune('a' + id)), Type: typ, Kind: api.Message, Rule: rule}
	}
	// 1 + 3 + 3 + 5: 12 values, MaxLeast.
	twelve := books(message("a", in(1, "b", api.One), in(2, "b", api.One), in(3, "c", api.One)), message("b", fields(2, api.One)...), message("c", fields(4, api.One)...))
	thirteen := books(message("a", in(1, "b", api.One), in(2, "b", api.One), in(3, "c", api.One)), message("b", fields(2, api.One)...), message("c", fields(5, api.One)...))
	check(t, []goodCase{
		{"in itself", books(message("a", in(1, "a", api.One))), api.ErrLong},
		{"maybe in itself", books(message("a", in(1, "a", api.Maybe))), api.OK},
		{"many in itself", books(message("a", in(1, "a", api.Many))), api.OK},
		{"a ring of four", books(message("a", in(1, "b", api.One)), message("b", in(1, "c", api.One)), message("c", in(1, "d", api.One)), message("d", in(1, "a", api.One))), api.ErrLong},
		{"a chain of four", books(message("a", in(1, "b", api.One)), message("b", in(1, "c", api.One)), message("c", in(1, "d", api.One)), message("d")), api.OK},
		{"twelve", twelve, api.OK},
		{"thirteen", thirteen, api.ErrLong},
		{"a form ahead of what is long", books(message("a", in(1, "a", api.One)), message("b", plain(0, "x"))), api.ErrForm},
	})
}

// P1.4

func TestLeastCounts(t *testing.T) {
	b := books(
		enum("e", numbered(2)...),
		message("none"),
		message("some", api.Field{Id: 1, Name: "a", Kind: api.Int, Rule: api.One}, api.Field{Id: 2, Name: "b", Kind: api.Int, Rule: api.Maybe}, api.Field{Id: 3, Name: "c", Kind: api.Text, Rule: api.Many}, api.Field{Id: 4, Name: "d", Type: "e", Kind: api.Enum, Rule: api.One}),
		message("two", api.Field{Id: 1, Name: "a", Type: "some", Kind: api.Message, Rule: api.One}, api.Field{Id: 2, Name: "b", Type: "some", Kind: api.Message, Rule: api.One}, api.Field{Id: 3, Name: "c", Type: "two", Kind: api.Message, Rule: api.Maybe}, api.Field{Id: 4, Name: "d", Type: "two", Kind: api.Message, Rule: api.Many}),
	)
	for name, want := range map[string]int{"none": 1, "some": 3, "two": 7, "e": 0, "other": 0, "": 0} {
		if n := book.Least(b, name); n != want {
			t.Errorf("%q: %d, not %d", name, n, want)
		}
	}
	if n := book.Least(sample(), "big"); n != 3 {
		t.Error(n)
	}
}

// Least is also asked of books that are not good.
func TestLeastOfAnyBook(t *testing.T) {
	in := func(id int, typ string, rule int) api.Field {
		return api.Field{Id: id, Name: "x", Type: typ, Kind: api.Message, Rule: rule}
	}
	chain := books(message("e"), message("d", in(1, "e", api.One)), message("c", in(1, "d", api.One)), message("b", in(1, "c", api.One)), message("a", in(1, "b", api.One)), message("f", in(1, "a", api.Maybe)))
	cases := []struct {
		what string
		b    api.Book
		name string
		want int
	}{
		{"more than thirteen", books(message("a", in(1, "b", api.One), in(1, "b", api.One), in(1, "b", api.One)), message("b", fields(5, api.One)...)), "a", 19},
		{"four, one in another", chain, "b", 4},
		{"five, one in another", chain, "a", 0},
		{"five, but maybe", chain, "f", 1},
		{"in itself", books(message("a", in(1, "a", api.One))), "a", 0},
		{"behind another field", books(message("a", plain(1, "y"), in(1, "a", api.One))), "a", 0},
		{"five fields", books(message("a", fields(5, api.One)...)), "a", 6},
		{"six fields", books(message("a", fields(6, api.Maybe)...)), "a", 0},
		{"six fields within", books(message("a", in(1, "b", api.One)), message("b", fields(6, api.Maybe)...)), "a", 0},
		{"six fields that may lack", books(message("a", in(1, "b", api.Maybe)), message("b", fields(6, api.Maybe)...)), "a", 1},
		{"an enum within", books(message("a", in(1, "b", api.One)), enum("b", numbered(1)...)), "a", 0},
		{"nothing within", books(message("a", in(1, "b", api.One))), "a", 0},
		{"the first of a name", books(message("a", plain(1, "x")), message("a")), "a", 2},
		{"a kind that is none", books(message("a", api.Field{Kind: 77, Rule: api.One, Type: "a"})), "a", 2},
		{"a rule that is none", books(message("a", api.Field{Kind: api.Message, Rule: 0, Type: "a"}, api.Field{Kind: api.Message, Rule: 4, Type: "a"})), "a", 1},
	}
	for _, c := range cases {
		if n := book.Least(c.b, c.name); n != c.want {
			t.Errorf("%s: %d, not %d", c.what, n, c.want)
		}
	}
}

// The widest and deepest there is: it must end, and soon.
func TestLeastOfRings(t *testing.T) {
	var all []api.Field
	for range api.MaxFields {
		all = append(all, api.Field{Type: "a", Kind: api.Message, Rule: api.One})
	}
	if n := book.Least(books(message("a", all...)), "a"); n != 0 {
		t.Error(n)
	}
}
