package book

import (
	"cmp"
	"slices"

	"patternbook/api"
)

// Parse is the book of a text.
func Parse(s string) (api.Book, api.Errno) {
	if len(s) > api.MaxSource {
		return api.Book{}, api.ErrLong
	}
	r := &reader{text: s}
	b := r.book()
	if r.bad {
		return api.Book{}, api.ErrForm
	}
	sortBook(b)
	setKinds(b)
	if e := Good(b); e != api.OK {
		return api.Book{}, e
	}
	return b, api.OK
}

func sortBook(b api.Book) {
	slices.SortFunc(b.Types, func(x, y api.Type) int { return cmp.Compare(x.Name, y.Name) })
	for _, t := range b.Types {
		slices.SortFunc(t.Fields, func(x, y api.Field) int { return cmp.Compare(x.Id, y.Id) })
		slices.SortFunc(t.Items, func(x, y api.Item) int { return cmp.Compare(x.N, y.N) })
		slices.SortFunc(t.Gone, func(x, y int) int { return cmp.Compare(x, y) })
	}
}

// setKinds comes when all types are read, for a field may name a type that stands behind it. A name of no type stays without a kind: Good refuses it.
func setKinds(b api.Book) {
	for _, t := range b.Types {
		for i, f := range t.Fields {
			if f.Type != "" {
				t.Fields[i].Kind = kindOfType(b, f.Type)
			}
		}
	}
}

func kindOfType(b api.Book, name string) int {
	t, ok := lookUp(b, name)
	switch {
	case !ok:
		return 0
	case t.Enum:
		return api.Enum
	}
	return api.Message
}

// book is all types as they stand; more of them than may be is for Good to say.
func (r *reader) book() api.Book {
	var b api.Book
	for r.more() {
		b.Types = append(b.Types, r.nextType())
	}
	return b
}

func (r *reader) nextType() api.Type {
	var t api.Type
	switch r.word() {
	case "enum":
		t.Enum = true
	case "message":
	default:
		r.bad = true
	}
	t.Name = r.word()
	r.sign('{')
	for r.more() && !r.sees('}') {
		r.line(&t)
	}
	r.sign('}')
	return t
}

// line takes any line in any type: what an enum or a message may not have is for Good to say.
func (r *reader) line(t *api.Type) {
	if r.seesWord() {
		t.Gone = append(t.Gone, r.gone()...)
	} else {
		n := r.number()
		w := r.word()
		if r.sees(';') {
			t.Items = append(t.Items, api.Item{Name: w, N: n})
		} else {
			t.Fields = append(t.Fields, r.field(n, w))
		}
	}
	r.sign(';')
}

func (r *reader) gone() []int {
	if r.word() != "gone" {
		r.bad = true
	}
	var ids []int
	for r.more() && !r.sees(';') {
		ids = append(ids, r.number())
	}
	return ids
}

// field is what comes behind an id and the word of a rule.
func (r *reader) field(id int, rule string) api.Field {
	f := api.Field{Id: id, Rule: ruleOf(rule)}
	if f.Rule == 0 {
		r.bad = true
	}
	w := r.word()
	f.Kind = kindOfWord(w)
	if f.Kind == 0 {
		f.Type = w
	}
	f.Name = r.word()
	return f
}

// ruleOf is the rule of a word; 0: it is none.
func ruleOf(w string) int {
	for rule, name := range ruleNames {
		if w == name {
			return rule
		}
	}
	return 0
}

// kindOfWord is the kind of a word; 0: it may be a type's name.
func kindOfWord(w string) int {
	for kind, name := range kindNames {
		if w == name {
			return kind
		}
	}
	return 0
}
