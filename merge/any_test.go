package merge_test

import (
	"fmt"
	"math/rand"
	"reflect"
	"slices"
	"testing"

	"patternbook/api"
	"patternbook/book"
	"patternbook/merge"
)

// Against a plain reckoning: a book as one flat table, each thing of it under a key.

type key struct {
	name, part string
	n          int
}

func table(b api.Book) map[key]any {
	m := map[key]any{}
	for _, t := range b.Types {
		m[key{t.Name, "type", 0}] = t.Enum
		for _, f := range t.Fields {
			m[key{t.Name, "field", f.Id}] = f
		}
		for _, id := range t.Gone {
			m[key{t.Name, "gone", id}] = true
		}
		for _, item := range t.Items {
			m[key{t.Name, "item", item.N}] = item.Name
		}
	}
	return m
}

// plainMerge is the table that comes of three, and the keys that both have changed.
func plainMerge(was, a, b map[key]any) (map[key]any, map[key]bool) {
	keys := map[key]bool{}
	for _, m := range []map[key]any{was, a, b} {
		for k := range m {
			keys[k] = true
		}
	}
	out, bad := map[key]any{}, map[key]bool{}
	for k := range keys {
		x := a[k]
		if a[k] == was[k] {
			x = b[k]
		} else if a[k] != b[k] && b[k] != was[k] {
			bad[k] = true
		}
		if x != nil {
			out[k] = x
		}
	}
	return out, bad
}

// plainFlaws tells one name's flaws, out of a merged table.
func plainFlaws(name string, m map[key]any, bad map[key]bool) []api.Flaw {
	if bad[key{name, "type", 0}] {
		return []api.Flaw{flaw(name, 0)}
	}
	var l []api.Flaw
	ids, items := false, false
	for id := range api.MaxId + 1 {
		f, gone := key{name, "field", id}, key{name, "gone", id}
		if bad[f] || m[f] != nil && m[gone] != nil {
			l = append(l, flaw(name, id))
		}
		ids = ids || m[f] != nil || m[gone] != nil
	}
	for n := -10; n <= 10; n++ {
		k := key{name, "item", n}
		if bad[k] {
			l = append(l, flaw(name, n))
		}
		items = items || m[k] != nil
	}
	enum := m[key{name, "type", 0}]
	if len(l) == 0 && (ids && enum != false || items && enum != true) {
		l = append(l, flaw(name, 0))
	}
	return l
}

// bookOf is the book of a table without flaws.
func bookOf(m map[key]any) api.Book {
	var b api.Book
	for _, name := range names {
		enum, there := m[key{name, "type", 0}]
		if !there {
			continue
		}
		t := api.Type{Name: name, Enum: enum.(bool)}
		for n := -10; n <= api.MaxId; n++ {
			if f, ok := m[key{name, "field", n}]; ok {
				t.Fields = append(t.Fields, f.(api.Field))
			}
			if m[key{name, "gone", n}] != nil {
				t.Gone = append(t.Gone, n)
			}
			if s, ok := m[key{name, "item", n}]; ok {
				t.Items = append(t.Items, api.Item{Name: s.(string), N: n})
			}
		}
		b.Types = append(b.Types, t)
	}
	return b
}

// names that any book's types may have, rising.
var names = []string{"a", "ab", "b", "c", "m"}

func plainBooks(was, a, b api.Book) (api.Book, []api.Flaw, api.Errno) {
	m, bad := plainMerge(table(was), table(a), table(b))
	var l []api.Flaw
	for _, name := range names {
		l = append(l, plainFlaws(name, m, bad)...)
	}
	if len(l) > 0 {
		return api.Book{}, l, api.ErrConflict
	}
	x := bookOf(m)
	if e := book.Good(x); e != api.OK {
		return api.Book{}, nil, e
	}
	return x, nil, api.OK
}

func checkPlain(t *testing.T, was, a, b api.Book) api.Errno {
	t.Helper()
	x, l, e := merge.Books(was, a, b)
	y, want, f := plainBooks(was, a, b)
	if e != f || !slices.Equal(l, want) || !reflect.DeepEqual(copied(x), copied(y)) {
		t.Fatalf("%+v\n%+v\n%+v:\n%+v, %+v, %d; wanted\n%+v, %+v, %d", was, a, b, x, l, e, y, want, f)
	}
	return e
}

// All threes of types that a name may have.
func TestAllThrees(t *testing.T) {
	all := []string{"", "message m{}", "message m{1 one int x;}", "message m{1 one int y;}", "message m{1 many text x;}", "message m{gone 1;}", "message m{2 one int x;}", "message m{1 one int x;2 one int y;}",
		"message m{1 one int x;gone 2;}", "message m{gone 1 2;}", "enum m{0 p;}", "enum m{0 q;}", "enum m{1 p;}", "enum m{0 p;1 q;}", "enum m{-1 p;0 q;}", "enum m{0 r;1 p;}"}
	for _, was := range all {
		for _, a := range all {
			for _, b := range all {
				checkPlain(t, parse(t, was), parse(t, a), parse(t, b))
			}
		}
	}
}

func pick[T any](r *rand.Rand, l ...T) T { return l[r.Intn(len(l))] }

// anyBook is a good one.
func anyBook(r *rand.Rand) api.Book {
	for {
		var b api.Book
		for _, name := range names {
			if r.Intn(3) > 0 {
				b.Types = append(b.Types, anyType(r, name))
			}
		}
		if setKinds(b); book.Good(b) == api.OK {
			return b
		}
	}
}

func anyType(r *rand.Rand, name string) api.Type {
	t := api.Type{Name: name, Enum: r.Intn(2) == 0}
	for n := 1; n <= 4; n++ {
		switch {
		case t.Enum && (r.Intn(2) == 0 || n == 4 && len(t.Items) == 0):
			t.Items = append(t.Items, api.Item{Name: pick(r, "x", "y", "z") + fmt.Sprintf("%c", 'a'+n), N: n - 3})
		case !t.Enum && r.Intn(2) == 0:
			t.Fields = append(t.Fields, anyField(r, n))
		case !t.Enum && r.Intn(4) == 0:
			t.Gone = append(t.Gone, n)
		}
	}
	return t
}

// anyField is of kind Enum where it has a type, until all types are there.
func anyField(r *rand.Rand, id int) api.Field {
	f := api.Field{Id: id, Name: pick(r, "p", "q", "r", "s", "t"), Kind: pick(r, api.Bool, api.Int, api.Text, api.Enum), Rule: pick(r, api.One, api.Maybe, api.Many)}
	if f.Kind == api.Enum {
		f.Type = pick(r, names...)
	}
	return f
}

func setKinds(b api.Book) {
	for _, t := range b.Types {
		for i, f := range t.Fields {
			if found, ok := book.Find(b, f.Type); ok && !found.Enum {
				t.Fields[i].Kind = api.Message
			} else if f.Type != "" {
				t.Fields[i].Kind = api.Enum
			}
		}
	}
}

// later is a good book that somebody has made of another one by some changes.
func later(r *rand.Rand, was api.Book) api.Book {
	for {
		b := copied(was)
		for range r.Intn(6) {
			b.Types = changed(r, b.Types)
		}
		if setKinds(b); book.Good(b) == api.OK {
			return b
		}
	}
}

// changed takes a type out, puts one in, or changes what is in one.
func changed(r *rand.Rand, l []api.Type) []api.Type {
	name := pick(r, names...)
	i := slices.IndexFunc(l, func(t api.Type) bool { return t.Name >= name })
	if i < 0 {
		return append(l, anyType(r, name))
	}
	if l[i].Name != name {
		return slices.Insert(l, i, anyType(r, name))
	}
	if r.Intn(4) == 0 {
		return slices.Delete(l, i, i+1)
	}
	changeType(r, &l[i])
	return l
}

func changeType(r *rand.Rand, t *api.Type) {
	n := 1 + r.Intn(4)
	if t.Enum {
		t.Items = slices.DeleteFunc(t.Items, func(x api.Item) bool { return x.N == n-3 })
		if r.Intn(3) > 0 {
			t.Items = append(t.Items, api.Item{Name: pick(r, "x", "y", "z"), N: n - 3})
			slices.SortFunc(t.Items, func(x, y api.Item) int { return x.N - y.N })
		}
		return
	}
	t.Fields = slices.DeleteFunc(t.Fields, func(f api.Field) bool { return f.Id == n })
	t.Gone = slices.DeleteFunc(t.Gone, func(id int) bool { return id == n })
	switch r.Intn(3) {
	case 0:
		t.Fields = append(t.Fields, anyField(r, n))
		slices.SortFunc(t.Fields, func(x, y api.Field) int { return x.Id - y.Id })
	case 1:
		t.Gone = append(t.Gone, n)
		slices.Sort(t.Gone)
	}
}

func TestAnyBooks(t *testing.T) {
	r := rand.New(rand.NewSource(5))
	seen := map[api.Errno]int{}
	for range 6000 {
		was := anyBook(r)
		a, b := later(r, was), later(r, was)
		if r.Intn(8) == 0 {
			b = anyBook(r)
		}
		e := checkPlain(t, was, a, b)
		if f := checkPlain(t, was, b, a); e != f {
			t.Fatalf("%+v\n%+v\n%+v: %d, and %d the other way round", was, a, b, e, f)
		}
		seen[e]++
		checkOneAlone(t, was, a)
	}
	// Else this would tell little.
	for _, e := range []api.Errno{api.OK, api.ErrConflict, api.ErrForm, api.ErrLong} {
		if seen[e] < 50 {
			t.Errorf("%d: only %d", e, seen[e])
		}
	}
}

// checkOneAlone: where one alone has changed something, or both alike, that comes of it.
func checkOneAlone(t *testing.T, was, a api.Book) {
	t.Helper()
	for _, l := range [][3]api.Book{{was, a, was}, {was, was, a}, {was, a, a}} {
		if x, flaws, e := merge.Books(l[0], l[1], l[2]); e != api.OK || len(flaws) != 0 || !merge.Same(x, a) || printed(t, x) != printed(t, a) {
			t.Fatalf("%+v\n%+v: %+v, %+v, %d", was, a, x, flaws, e)
		}
	}
	if merge.Same(was, a) != (printed(t, was) == printed(t, a)) {
		t.Fatalf("%+v\n%+v: Same", was, a)
	}
}
