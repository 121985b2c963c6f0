package book_test

import (
	"math/rand"
	"reflect"
	"slices"
	"strconv"
	"strings"
	"testing"

	"patternbook/api"
	"patternbook/book"
)

const sampleText = `message big {
  1 one bool yes;
  4 maybe int count;
  9 many text words;
  11 one hue color;
  30 maybe big next;
  gone 2 3 29;
}
enum hue {
  -1099511627776 red;
  0 green;
  1099511627776 blue;
}
message none {
}
`

// same is whether books are alike; whether a list without elements is nil is nobody's business.
func same(a, b api.Book) bool {
	return slices.EqualFunc(a.Types, b.Types, func(x, y api.Type) bool {
		return x.Name == y.Name && x.Enum == y.Enum && slices.Equal(x.Fields, y.Fields) && slices.Equal(x.Gone, y.Gone) && slices.Equal(x.Items, y.Items)
	})
}

// P1.5

func TestPrintIsToTheByte(t *testing.T) {
	if s, e := book.Print(sample()); s != sampleText || e != api.OK {
		t.Errorf("%q, %d", s, e)
	}
	if s, e := book.Print(api.Book{}); s != "" || e != api.OK {
		t.Errorf("%q, %d", s, e)
	}
	only := books(api.Type{Name: "a", Gone: []int{7}})
	if s, e := book.Print(only); s != "message a {\n  gone 7;\n}\n" || e != api.OK {
		t.Errorf("%q, %d", s, e)
	}
}

func TestPrintSaysGoodsError(t *testing.T) {
	check(t, []goodCase{
		{"form", books(message("a", plain(1, "int"))), api.ErrForm},
		{"long", books(message("a", api.Field{Id: 1, Name: "x", Type: "a", Kind: api.Message, Rule: api.One})), api.ErrLong},
		{"a rule that has no word", books(message("a", api.Field{Id: 1, Name: "x", Kind: api.Int, Rule: 9})), api.ErrForm},
		{"a kind that has no word", books(message("a", api.Field{Id: 1, Name: "x", Kind: -9, Rule: api.One})), api.ErrForm},
	})
}

// P1.6

func TestParseReadsWhatIsPrinted(t *testing.T) {
	b, e := book.Parse(sampleText)
	if e != api.OK || !same(b, sample()) {
		t.Errorf("%+v, %d", b, e)
	}
}

type parsed struct{ text, printed string }

func checkParsed(t *testing.T, cases []parsed) {
	t.Helper()
	for _, c := range cases {
		b, e := book.Parse(c.text)
		if e != api.OK {
			t.Errorf("%q: %d", c.text, e)
			continue
		}
		if s, e := book.Print(b); s != c.printed || e != api.OK {
			t.Errorf("%q: %q, %d", c.text, s, e)
		}
	}
}

func TestParseTakesAnyOrder(t *testing.T) {
	checkParsed(t, []parsed{
		{"message b {\n}\nmessage a {\n}\n", "message a {\n}\nmessage b {\n}\n"},
		{"enum e {\n  5 x;\n  -3 y;\n  0 z;\n}\n", "enum e {\n  -3 y;\n  0 z;\n  5 x;\n}\n"},
		{"message a {\n  gone 9 2 4;\n  3 one int x;\n  gone 7;\n  1 many text y;\n}\n", "message a {\n  1 many text y;\n  3 one int x;\n  gone 2 4 7 9;\n}\n"},
		{"message a { 1 one z x; 2 many y w; } message z { } enum y { 1 i; }", "message a {\n  1 one z x;\n  2 many y w;\n}\nenum y {\n  1 i;\n}\nmessage z {\n}\n"},
	})
}

func TestParseTakesSeveralGoneLinesAlsoEmptyOnes(t *testing.T) {
	checkParsed(t, []parsed{
		{"message a { gone; }", "message a {\n}\n"},
		{"message a { gone; gone 3; gone; gone 1 2; gone ; }", "message a {\n  gone 1 2 3;\n}\n"},
		{"enum a { gone; 1 x; }", "enum a {\n  1 x;\n}\n"},
	})
}

func TestParseTakesSpacesOrNone(t *testing.T) {
	a := "message a {\n  1 one int x;\n  gone 2 3;\n}\n"
	checkParsed(t, []parsed{
		{"", ""},
		{" \n\t\r", ""},
		{"message a{1one int x;gone2 3;}", a},
		{"\r\n\t message\ta\r{\n1\tone\nint\rx\t;\ngone\t2\n3\r;\n}\r\n\t ", a},
		{"message   a   {   1   one   int   x   ;   gone   2   3   ;   }   ", a},
		{"enum e{-1x;0y;}enum f{3z;}", "enum e {\n  -1 x;\n  0 y;\n}\nenum f {\n  3 z;\n}\n"},
	})
}

func TestParseTellsKinds(t *testing.T) {
	b, e := book.Parse("message a { 1 one bool p; 2 maybe int q; 3 many text r; 4 one e s; 5 maybe a u; } enum e { 1 x; }")
	want := []api.Field{
		{Id: 1, Name: "p", Kind: api.Bool, Rule: api.One},
		{Id: 2, Name: "q", Kind: api.Int, Rule: api.Maybe},
		{Id: 3, Name: "r", Kind: api.Text, Rule: api.Many},
		{Id: 4, Name: "s", Type: "e", Kind: api.Enum, Rule: api.One},
		{Id: 5, Name: "u", Type: "a", Kind: api.Message, Rule: api.Maybe},
	}
	if e != api.OK || !slices.Equal(b.Types[0].Fields, want) {
		t.Errorf("%+v, %d", b, e)
	}
}

func checkRefused(t *testing.T, want api.Errno, texts ...string) {
	t.Helper()
	for _, s := range texts {
		if b, e := book.Parse(s); e != want || len(b.Types) != 0 {
			t.Errorf("%q: %+v, %d, not %d", s, b, e, want)
		}
	}
}

func TestParseRefusesOtherForms(t *testing.T) {
	checkRefused(t, api.ErrForm,
		"#", "\x00", "1", ";", "{}", "x", "message", "message a", "message a {", "message {}", "messagea{}", "mess age a{}",
		"Message a{}", "struct a{}", "gone 1;", "message a{};", "message a{}}", "message a{{}", "message a[]", "message a{}\x00", "message a{}\v", "message\fa{}", "message\u00a0a{}",
		"message a{1 one int x}", "message a{1 one int x;", "message a{1 one int x;;}", "message a{;}", "message a{1;}", "message a{1 one;}", "message a{1 one int;}",
		"message a{one int x;}", "message a{1 int x;}", "message a{1 one x;}", "message a{1 one int x y;}", "message a{1 one int 2;}", "message a{1 2 one int x;}", "message a{1 some int x;}", "message a{1 oneint x;}",
		"message a{1, one int x;}", "message a{x;}", "message a{gone}", "message a{gone 1}", "message a{gone 1", "message a{gone", "message a{gone x;}", "message a{gone 1,2;}", "message a{gone 1;2;}", "message a{gone gone 1;}", "message a{gon 1;}",
		"enum a{x;}", "enum a{x 1;}", "enum a{1 x}", "enum a{1 x y;}", "enum a{1 x;", "enum a{1 x;2;}", "enum a{1 x,2 y;}", "enum a{1;}",
	)
}

func TestParseRefusesNumbersOfOtherForms(t *testing.T) {
	for _, n := range []string{"0", "-1", "7", "1099511627776", "-1099511627776"} {
		if _, e := book.Parse("enum a{" + n + " x;}"); e != api.OK {
			t.Errorf("%q: %d", n, e)
		}
	}
	for _, n := range []string{"00", "01", "-01", "-00", "-0", "-", "--1", "+1", "- 1", "1-", "1.0", "1e1", "0x1", "1_0", "1099511627777", "-1099511627777", "10995116277760", "-10995116277760", "9223372036854775808", "18446744073709551617", strings.Repeat("9", 3000)} {
		checkRefused(t, api.ErrForm, "enum a{"+n+" x;}")
	}
	checkRefused(t, api.ErrForm, "message a{01 one int x;}", "message a{gone 01;}", "message a{gone 1 02;}", "message a{gone 1-2;}", "message a{gone -1;}", "message a{-1 one int x;}")
}

func TestParseSaysGoodsError(t *testing.T) {
	checkRefused(t, api.ErrForm,
		"message int{}", "message abcdefghijklm{}", "message a{}message a{}", "message a{}enum a{1 x;}",
		"enum a{}", "enum a{1 x;1 y;}", "enum a{1 x;2 x;}", "enum a{1 x;gone 1;}", "enum a{1 x;2 one int y;}", "enum a{1 one;}", "enum a{1 a;2 b;3 c;4 d;5 e;6 f;7 g;}",
		"message a{1 x;}", "message a{0 one int x;}", "message a{31 one int x;}", "message a{1 one int x;1 one int y;}", "message a{1 one int x;2 one int x;}", "message a{1 one int one;}",
		"message a{gone 0;}", "message a{gone 31;}", "message a{gone 2 2;}", "message a{gone 2;gone 2;}", "message a{1 one int x;gone 1;}",
		"message a{1 one b x;}", "message a{1 one message x;}", "message a{1 one one x;}",
		"message a{1 one int p;2 one int q;3 one int r;4 one int s;5 one int t;6 one int u;}",
	)
	checkRefused(t, api.ErrLong,
		"message a{1 one a x;}", "message a{1 one b x;}message b{1 one a x;}",
		"message a{}message b{}message c{}message d{}message e{}", "enum a{1 x;}enum b{1 x;}enum c{1 x;}enum d{1 x;}enum e{1 x;}",
		"message a{1 one b p;2 one b q;3 one b r;}message b{1 one int p;2 one int q;3 one int r;}",
	)
}

// Good says that there are too many types ahead of all else, but a form that is none, and a number that is none, come ahead of Good.
func TestParseSaysItsOwnErrorAheadOfGoods(t *testing.T) {
	four := "message b{}message c{}message d{}message e{}"
	checkRefused(t, api.ErrForm, four+"message a{", four+"message a{01 one int x;}", four+"message a{1 some int x;}", four+"enum a{1099511627777 x;}", four+"message a{gone 1099511627777;}", four+"}", four+"message{}", four+"enum{1 x;}", four+"enum a{1;}", four+"message a{1 one int;}", four+"message a{1 one;;}", four+"message a{gone 1")
	checkRefused(t, api.ErrLong, four+"message a{31 one int x;}", four+"message a{1 one z x;}", four+"message int{}", four+"message e{}", four+"enum a{}")
}

func TestParseRefusesLongTextsAheadOfAllElse(t *testing.T) {
	a := "message a{}"
	if _, e := book.Parse(a + strings.Repeat(" ", api.MaxSource-len(a))); e != api.OK {
		t.Error(e)
	}
	checkRefused(t, api.ErrLong, a+strings.Repeat(" ", api.MaxSource-len(a)+1), strings.Repeat("#", api.MaxSource+1))
	checkRefused(t, api.ErrForm, strings.Repeat("#", api.MaxSource))
}

// anyBook makes a book that is good, or nearly so.
func anyBook(r *rand.Rand) api.Book {
	var b api.Book
	for i := range r.Intn(api.MaxTypes + 1) {
		t := api.Type{Name: strings.Repeat(string(rune('a'+i)), 1+r.Intn(api.MaxName)), Enum: r.Intn(3) == 0}
		b.Types = append(b.Types, t)
	}
	for i := range b.Types {
		if b.Types[i].Enum {
			b.Types[i].Items = anyItems(r)
		} else {
			fillMessage(r, b, &b.Types[i])
		}
	}
	return b
}

func anyItems(r *rand.Rand) []api.Item {
	var l []api.Item
	n := -r.Intn(20)
	for i := range 1 + r.Intn(api.MaxItems) {
		l = append(l, api.Item{Name: string(rune('a' + i)), N: n})
		n += 1 + r.Intn(1<<r.Intn(20))
	}
	return l
}

func fillMessage(r *rand.Rand, b api.Book, t *api.Type) {
	for id := 1; id <= api.MaxId; id++ {
		switch {
		case r.Intn(6) == 0 && len(t.Fields) < api.MaxFields:
			t.Fields = append(t.Fields, anyField(r, b, id))
		case r.Intn(6) == 0:
			t.Gone = append(t.Gone, id)
		}
	}
}

func anyField(r *rand.Rand, b api.Book, id int) api.Field {
	f := api.Field{Id: id, Name: "x" + string(rune('a'+id%26)) + strings.Repeat("y", id/26), Kind: 1 + r.Intn(3), Rule: 1 + r.Intn(3)}
	if r.Intn(2) == 0 {
		t := b.Types[r.Intn(len(b.Types))]
		f.Type, f.Kind = t.Name, api.Message
		if t.Enum {
			f.Kind = api.Enum
		}
	}
	return f
}

// shuffled tells a book with types, lines and gone ids in any order, and any spaces.
func shuffled(r *rand.Rand, b api.Book) string {
	var types []string
	for _, t := range b.Types {
		words := []string{"message", t.Name, "{"}
		if t.Enum {
			words[0] = "enum"
		}
		all := lines(r, t)
		r.Shuffle(len(all), func(i, j int) { all[i], all[j] = all[j], all[i] })
		for _, l := range all {
			words = append(append(words, l...), ";")
		}
		types = append(types, spaced(r, append(words, "}")))
	}
	r.Shuffle(len(types), func(i, j int) { types[i], types[j] = types[j], types[i] })
	return strings.Join(types, spaces(r, 0))
}

func lines(r *rand.Rand, t api.Type) [][]string {
	var all [][]string
	for _, i := range t.Items {
		all = append(all, []string{strconv.Itoa(i.N), i.Name})
	}
	for _, f := range t.Fields {
		kind := []string{"", "bool", "int", "text", f.Type, f.Type}[f.Kind]
		all = append(all, []string{strconv.Itoa(f.Id), []string{"", "one", "maybe", "many"}[f.Rule], kind, f.Name})
	}
	line := []string{"gone"}
	for _, i := range r.Perm(len(t.Gone)) {
		if r.Intn(4) == 0 {
			all = append(all, line)
			line = []string{"gone"}
		}
		line = append(line, strconv.Itoa(t.Gone[i]))
	}
	return append(all, line)
}

func spaces(r *rand.Rand, least int) string {
	s := ""
	for range least + r.Intn(2) {
		s += string(" \n\t\r"[r.Intn(4)])
	}
	return s
}

// spaced joins words: two words, and two numbers, need a space between them, all else none.
func spaced(r *rand.Rand, words []string) string {
	letter := func(c byte) bool { return c >= 'a' && c <= 'z' }
	digit := func(c byte) bool { return c >= '0' && c <= '9' }
	s := ""
	for _, w := range words {
		least := 0
		if s != "" && (letter(s[len(s)-1]) && letter(w[0]) || digit(s[len(s)-1]) && digit(w[0])) {
			least = 1
		}
		s += spaces(r, least) + w
	}
	return s
}

func TestPrintAndParseAreEachOthersWayBack(t *testing.T) {
	r := rand.New(rand.NewSource(1))
	good := 0
	for range 3000 {
		b := anyBook(r)
		text := shuffled(r, b)
		if len(text) > api.MaxSource {
			continue
		}
		want := book.Good(b)
		got, e := book.Parse(text)
		if e != want {
			t.Fatalf("%q: %d, not %d", text, e, want)
		}
		printed, e := book.Print(b)
		if e != want {
			t.Fatalf("%+v: %d, not %d", b, e, want)
		}
		if want != api.OK {
			continue
		}
		good++
		again, e := book.Parse(printed)
		if e != api.OK || !same(got, b) || !same(again, b) {
			t.Fatalf("%q:\n%+v\n%+v\n%+v", text, b, got, again)
		}
	}
	if good < 500 {
		t.Errorf("only %d books were good", good)
	}
}

// What holds everywhere.

func TestEveryCallEndsWhateverIsGiven(t *testing.T) {
	r := rand.New(rand.NewSource(2))
	pieces := []string{"message", "enum", "gone", "one", "maybe", "many", "int", "text", "bool", "a", "b", "{", "}", ";", "-", "0", "1", "31", " ", "\n", "\x00", "\xff", "A"}
	for range 20000 {
		s := ""
		for range r.Intn(30) {
			s += pieces[r.Intn(len(pieces))]
		}
		book.Named(s)
		if b, e := book.Parse(s); e == api.OK && book.Good(b) != api.OK || e != api.OK && b.Types != nil {
			t.Fatalf("%q: %+v, %d", s, b, e)
		}
	}
	number := func() int { return []int{-1 << 63, -1, 0, 1, 2, 3, 4, 5, 6, 30, 31, 1<<63 - 1}[r.Intn(12)] }
	name := func() string { return []string{"", "a", "b", "int", "A"}[r.Intn(5)] }
	for range 20000 {
		var b api.Book
		for range r.Intn(6) {
			m := api.Type{Name: name(), Enum: r.Intn(2) == 0}
			for range r.Intn(4) {
				m.Fields = append(m.Fields, api.Field{Id: number(), Name: name(), Type: name(), Kind: number(), Rule: number()})
			}
			for range r.Intn(2) {
				m.Gone = append(m.Gone, number())
				m.Items = append(m.Items, api.Item{Name: name(), N: number()})
			}
			book.FieldOf(m, number())
			book.Means(m, number())
			b.Types = append(b.Types, m)
		}
		book.Find(b, name())
		book.Least(b, name())
		s, e := book.Print(b)
		if e != book.Good(b) || e != api.OK && s != "" {
			t.Fatalf("%+v: %q, %d", b, s, e)
		}
	}
}

func TestListsThatAreHandedInStayAsTheyAre(t *testing.T) {
	withRoom := func(b api.Book) api.Book {
		b.Types = append(make([]api.Type, 0, 9), b.Types...)
		for i := range b.Types {
			m := &b.Types[i]
			m.Fields = append(make([]api.Field, 0, 9), m.Fields...)
			m.Gone = append(make([]int, 0, 9), m.Gone...)
			m.Items = append(make([]api.Item, 0, 9), m.Items...)
		}
		return b
	}
	whole := func(b api.Book) []api.Type {
		l := slices.Clone(b.Types[:cap(b.Types)])
		for i, m := range l {
			l[i].Fields = slices.Clone(m.Fields[:cap(m.Fields)])
			l[i].Gone = slices.Clone(m.Gone[:cap(m.Gone)])
			l[i].Items = slices.Clone(m.Items[:cap(m.Items)])
		}
		return l
	}
	falling := sample()
	slices.Reverse(falling.Types)
	for _, b := range []api.Book{withRoom(sample()), withRoom(falling)} {
		was := whole(b)
		book.Good(b)
		book.Print(b)
		book.Least(b, "big")
		book.Find(b, "hue")
		book.FieldOf(b.Types[0], 4)
		book.Means(b.Types[1], 0)
		if !reflect.DeepEqual(was, whole(b)) {
			t.Errorf("changed: %+v", b)
		}
	}
}
