package book

import (
	"strconv"
	"strings"

	"patternbook/api"
)

// ruleNames are the words of rules, by their numbers.
var ruleNames = []string{"", "one", "maybe", "many"}

// kindNames are the words of those kinds that need no type, by their numbers.
var kindNames = []string{"", "bool", "int", "text"}

// Print is a book as text.
func Print(b api.Book) (string, api.Errno) {
	if e := Good(b); e != api.OK {
		return "", e
	}
	var w strings.Builder
	for _, t := range b.Types {
		printType(&w, t)
	}
	return w.String(), api.OK
}

func printType(w *strings.Builder, t api.Type) {
	if t.Enum {
		w.WriteString("enum ")
	} else {
		w.WriteString("message ")
	}
	w.WriteString(t.Name)
	w.WriteString(" {\n")
	for _, item := range t.Items {
		printLine(w, strconv.Itoa(item.N), item.Name)
	}
	for _, f := range t.Fields {
		printLine(w, strconv.Itoa(f.Id), ruleNames[f.Rule], typeWord(f), f.Name)
	}
	if len(t.Gone) > 0 {
		printLine(w, "gone", digits(t.Gone)...)
	}
	w.WriteString("}\n")
}

func printLine(w *strings.Builder, first string, rest ...string) {
	w.WriteString("  ")
	w.WriteString(first)
	for _, s := range rest {
		w.WriteString(" ")
		w.WriteString(s)
	}
	w.WriteString(";\n")
}

func typeWord(f api.Field) string {
	if f.Kind == api.Enum || f.Kind == api.Message {
		return f.Type
	}
	return kindNames[f.Kind]
}

func digits(l []int) []string {
	var all []string
	for _, n := range l {
		all = append(all, strconv.Itoa(n))
	}
	return all
}
