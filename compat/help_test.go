package compat_test

import (
	"math/rand"
	"testing"

	"patternbook/api"
	"patternbook/book"
)

func number(n int) api.Value { return api.Value{Kind: api.IsNumber, N: n} }

func text(s string) api.Value { return api.Value{Kind: api.IsText, S: s} }

// in: a value, and the id at which it stands in a message.
type in struct {
	id int
	v  api.Value
}

func message(l ...in) api.Value {
	v := api.Value{Kind: api.IsMessage}
	for _, x := range l {
		v.Ids = append(v.Ids, x.id)
		v.L = append(v.L, x.v)
	}
	return v
}

// times is a message of n values alike, all at one id.
func times(n, id int, v api.Value) api.Value {
	var l []in
	for range n {
		l = append(l, in{id, v})
	}
	return message(l...)
}

// nested is n messages, one in another at that id, around v.
func nested(n, id int, v api.Value) api.Value {
	for range n {
		v = message(in{id, v})
	}
	return v
}

func parse(t testing.TB, s string) api.Book {
	t.Helper()
	b, e := book.Parse(s)
	if e != api.OK {
		t.Fatalf("%s: %d", s, e)
	}
	return b
}

// alike is whether two values tell the same; a list without elements may be nil or not.
func alike(a, b api.Value) bool {
	if a.Kind != b.Kind || a.N != b.N || a.S != b.S || len(a.Ids) != len(b.Ids) || len(a.L) != len(b.L) {
		return false
	}
	for i := range a.Ids {
		if a.Ids[i] != b.Ids[i] {
			return false
		}
	}
	for i := range a.L {
		if !alike(a.L[i], b.L[i]) {
			return false
		}
	}
	return true
}

func empty(v api.Value) bool { return alike(v, api.Value{}) }

// whole is a list with its spare room, in which a caller may have something.
func whole[T any](l []T) []T { return l[:cap(l)] }

// marks is the memory of all lists of a value that have any.
func marks(v api.Value) ([]*int, []*api.Value) {
	var ids []*int
	var values []*api.Value
	for i := range whole(v.Ids) {
		ids = append(ids, &whole(v.Ids)[i])
	}
	for i := range whole(v.L) {
		values = append(values, &whole(v.L)[i])
	}
	for _, x := range v.L {
		a, b := marks(x)
		ids, values = append(ids, a...), append(values, b...)
	}
	return ids, values
}

// ownMemory is whether no two lists of a value share memory, and none with one of the others.
func ownMemory(v api.Value, others ...api.Value) bool {
	ids, values := map[*int]int{}, map[*api.Value]int{}
	for _, x := range append([]api.Value{v}, others...) {
		a, b := marks(x)
		for _, p := range a {
			ids[p]++
		}
		for _, p := range b {
			values[p]++
		}
	}
	a, b := marks(v)
	for _, p := range a {
		if ids[p] > 1 {
			return false
		}
	}
	for _, p := range b {
		if values[p] > 1 {
			return false
		}
	}
	return true
}

// notGood are books that are not, whether Good says ErrForm or ErrLong of them; each has a message a.
func notGood() map[string]api.Book {
	field := func(kind int, name string, rule int) []api.Field {
		return []api.Field{{Id: 1, Name: "f", Type: name, Kind: kind, Rule: rule}}
	}
	return map[string]api.Book{
		"a name that is none":         {Types: []api.Type{{Name: "A"}, {Name: "a"}}},
		"a type twice":                {Types: []api.Type{{Name: "a"}, {Name: "a"}}},
		"a field of no kind":          {Types: []api.Type{{Name: "a", Fields: field(0, "", api.One)}}},
		"a field of no rule":          {Types: []api.Type{{Name: "a", Fields: field(api.Int, "", 4)}}},
		"an enum that is not there":   {Types: []api.Type{{Name: "a", Fields: field(api.Enum, "e", api.One)}}},
		"a message that is not there": {Types: []api.Type{{Name: "a", Fields: field(api.Message, "e", api.Many)}}},
		"an enum of nothing":          {Types: []api.Type{{Name: "a"}, {Name: "e", Enum: true}}},
		"more types than may be":      {Types: []api.Type{{Name: "a"}, {Name: "b"}, {Name: "c"}, {Name: "d"}, {Name: "e"}}},
		"a message that needs itself": {Types: []api.Type{{Name: "a", Fields: field(api.Message, "a", api.One)}}},
	}
}

// pick is one of a list.
func pick[T any](r *rand.Rand, l ...T) T { return l[r.Intn(len(l))] }

// anyBook is a good one with messages a, b and c, and an enum e.
func anyBook(r *rand.Rand) api.Book {
	for {
		b := api.Book{Types: []api.Type{anyMessage(r, "a"), anyMessage(r, "b"), anyMessage(r, "c"), anyEnum(r)}}
		if book.Good(b) == api.OK {
			return b
		}
	}
}

func anyMessage(r *rand.Rand, name string) api.Type {
	t := api.Type{Name: name}
	for id := 1; id <= 4; id++ {
		if r.Intn(4) > 0 {
			t.Fields = append(t.Fields, anyField(r, id))
		}
	}
	return t
}

func anyField(r *rand.Rand, id int) api.Field {
	f := api.Field{Id: id, Name: string(rune('p' + id)), Rule: pick(r, api.One, api.Maybe, api.Maybe, api.Many)}
	f.Kind = pick(r, api.Bool, api.Int, api.Text, api.Enum, api.Message, api.Message)
	switch f.Kind {
	case api.Enum:
		f.Type = "e"
	case api.Message:
		f.Type = pick(r, "a", "b", "c")
	}
	return f
}

func anyEnum(r *rand.Rand) api.Type {
	e := api.Type{Name: "e", Enum: true}
	for n := range 4 {
		if r.Intn(3) > 0 || n == 3 && len(e.Items) == 0 {
			e.Items = append(e.Items, api.Item{Name: string(rune('a' + n)), N: n})
		}
	}
	return e
}

// copied is a book alike, of its own memory.
func copied(b api.Book) api.Book {
	var l []api.Type
	for _, t := range b.Types {
		t.Fields = append([]api.Field(nil), t.Fields...)
		t.Gone = append([]int(nil), t.Gone...)
		t.Items = append([]api.Item(nil), t.Items...)
		l = append(l, t)
	}
	return api.Book{Types: l}
}

// later is a good book that somebody has made of another one by some changes.
func later(r *rand.Rand, was api.Book) api.Book {
	for {
		b := copied(was)
		for range r.Intn(4) {
			t := &b.Types[r.Intn(3)]
			change(r, t)
		}
		if r.Intn(3) == 0 {
			b.Types[3] = anyEnum(r)
		}
		if book.Good(b) == api.OK {
			return b
		}
	}
}

// change takes a field out of a message, changes it, or puts one into it.
func change(r *rand.Rand, t *api.Type) {
	id := 1 + r.Intn(5)
	var l []api.Field
	for _, f := range t.Fields {
		if f.Id < id {
			l = append(l, f)
		}
	}
	if r.Intn(3) > 0 {
		l = append(l, anyField(r, id))
	}
	for _, f := range t.Fields {
		if f.Id > id {
			l = append(l, f)
		}
	}
	t.Fields = l
}

// anyValue is a message of a type of a good book; few is how deep it may go beyond what it needs.
func anyValue(r *rand.Rand, b api.Book, name string, few int) api.Value {
	v := api.Value{Kind: api.IsMessage}
	t, _ := book.Find(b, name)
	for _, f := range t.Fields {
		for range howMany(r, f, few) {
			v.Ids = append(v.Ids, f.Id)
			v.L = append(v.L, anyOne(r, b, f, few-1))
		}
	}
	return v
}

func howMany(r *rand.Rand, f api.Field, few int) int {
	switch {
	case f.Rule == api.One:
		return 1
	case few <= 0:
		return 0
	case f.Rule == api.Maybe:
		return r.Intn(2)
	}
	return r.Intn(4)
}

func anyOne(r *rand.Rand, b api.Book, f api.Field, few int) api.Value {
	switch f.Kind {
	case api.Bool:
		return number(r.Intn(2))
	case api.Int:
		return number(pick(r, 0, 1, 2, -7, api.MaxNumber, -api.MaxNumber))
	case api.Text:
		return text(pick(r, "", "a", "some text"))
	case api.Enum:
		e, _ := book.Find(b, f.Type)
		return number(pick(r, e.Items...).N)
	}
	return anyValue(r, b, f.Type, few)
}
