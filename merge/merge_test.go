package merge_test

import (
	"reflect"
	"testing"

	"patternbook/api"
	"patternbook/merge"
)

// P5.2

func TestBooksThatAreNotGood(t *testing.T) {
	good := parse(t, "message a{1 one int x;}")
	other := parse(t, "message a{1 one text x;}")
	for what, bad := range notGood() {
		for _, l := range [][3]api.Book{{bad, good, good}, {good, bad, good}, {good, good, bad}, {bad, bad, bad}, {{}, bad, bad}, {bad, {}, {}}, {{}, {}, bad},
			// That there are flaws, or that what comes of it is not good, is told later only.
			{bad, good, other}, {{}, bad, other}, {{}, other, bad}} {
			if x, flaws, e := merge.Books(l[0], l[1], l[2]); e != api.ErrForm || len(flaws) != 0 || len(x.Types) != 0 {
				t.Errorf("%s: %+v, %+v, %d", what, x, flaws, e)
			}
		}
	}
}

func TestMergedTypes(t *testing.T) {
	check(t, []mergeCase{
		merges("nothing of nothing", "", "", "", ""),
		merges("each adds one", "message c{}", "message a{}message c{}", "message c{}enum d{0 x;}", "message a{}message c{}enum d{0 x;}"),
		merges("both add the same", "", "message a{1 one int x;}", "message a{1 one int x;}", "message a{1 one int x;}"),
		merges("both add one, field by field", "", "message a{1 one int x;}", "message a{2 one int y;gone 3;}", "message a{1 one int x;2 one int y;gone 3;}"),
		merges("both add one, item by item", "", "enum a{1 x;}", "enum a{0 y;2 z;}", "enum a{0 y;1 x;2 z;}"),
		merges("one takes one out", "message a{1 one int x;gone 2;}enum e{0 p;}", "enum e{0 p;}", "message a{1 one int x;gone 2;}enum e{0 p;1 q;}", "enum e{0 p;1 q;}"),
		merges("both take one out", "message a{1 one int x;}enum e{0 p;}", "enum e{0 p;}", "enum e{0 p;}", "enum e{0 p;}"),
		merges("each takes one out", "message a{1 one int x;}enum e{0 p;}", "enum e{0 p;}", "message a{1 one int x;}", ""),
		merges("one makes an enum of it", "message a{1 one int x;gone 2;}", "enum a{0 p;}", "message a{1 one int x;gone 2;}", "enum a{0 p;}"),
		merges("one makes a message of it", "enum a{0 p;}", "message a{1 one int x;gone 2;}", "enum a{0 p;}", "message a{1 one int x;gone 2;}"),
		merges("both make an enum of it", "message a{1 one int x;}", "enum a{0 p;}", "enum a{1 q;}", "enum a{0 p;1 q;}"),
		conflict("another one is added", "", "message a{}", "enum a{0 x;}", flaw("a", 0)),
		conflict("one takes it out, one makes an enum of it", "message a{}", "", "enum a{0 x;}", flaw("a", 0)),
		conflict("one takes it out, one makes a message of it", "enum a{0 x;}", "", "message a{}", flaw("a", 0)),
	})
}

// With the flaw of a type's name nothing of what is in it is told.
func TestFlawOfATypeIsAllOfIt(t *testing.T) {
	check(t, []mergeCase{
		conflict("an enum, and fields", "message a{1 one int x;2 one int y;}", "", "enum a{0 p;}", flaw("a", 0)),
		conflict("nothing, and other items", "enum a{0 p;1 q;}", "", "message a{1 one int x;gone 2;}", flaw("a", 0)),
		conflict("and others go on", "message a{1 one int x;}message b{1 one int x;}", "message b{1 one text x;}", "enum a{0 p;}message b{1 one bool x;}", flaw("a", 0), flaw("b", 1)),
	})
}

func TestMergedFields(t *testing.T) {
	const was = "message a{1 one int x;2 one int y;}"
	check(t, []mergeCase{
		merges("nobody changes anything", was, was, was, was),
		merges("each adds one", was, "message a{1 one int x;2 one int y;3 one int z;}", "message a{1 one int x;2 one int y;30 many text v;}", "message a{1 one int x;2 one int y;3 one int z;30 many text v;}"),
		merges("each changes one", was, "message a{1 many int x;2 one int y;}", "message a{1 one int x;2 one bool q;}", "message a{1 many int x;2 one bool q;}"),
		merges("each takes one out", was, "message a{1 one int x;}", "message a{2 one int y;}", "message a{}"),
		merges("both change one alike", was, "message a{1 one int z;2 one int y;}", "message a{1 one int z;2 one int y;}", "message a{1 one int z;2 one int y;}"),
		merges("one changes, one adds", was, "message a{1 one text x;2 one int y;}", "message a{1 one int x;2 one int y;3 one int z;}", "message a{1 one text x;2 one int y;3 one int z;}"),
		merges("names change places", was, "message a{1 one int y;2 one int x;}", was, "message a{1 one int y;2 one int x;}"),
		conflict("both give it another name", was, "message a{1 one int p;2 one int y;}", "message a{1 one int q;2 one int y;}", flaw("a", 1)),
		conflict("one another name, one another rule", was, "message a{1 one int p;2 one int y;}", "message a{1 many int x;2 one int y;}", flaw("a", 1)),
		conflict("one another kind, one another rule", was, "message a{1 one int x;2 one bool y;}", "message a{1 one int x;2 maybe int y;}", flaw("a", 2)),
		conflict("one changes it, one takes it out", was, "message a{1 one int x;}", "message a{1 one int x;2 one text y;}", flaw("a", 2)),
		conflict("both add one of an id", was, "message a{1 one int x;2 one int y;30 one int z;}", "message a{1 one int x;2 one int y;30 one int q;}", flaw("a", 30)),
		conflict("fields of other types", "message a{}message b{}message c{}", "message a{3 one b x;}message b{}message c{}", "message a{3 one c x;}message b{}message c{}", flaw("a", 3)),
		conflict("changed in an enum that it was not", "message a{1 one int x;}", "enum a{0 p;}", "message a{1 one text x;}", flaw("a", 1)),
		conflict("changed in a type that is taken out", was, "", "message a{1 one text x;2 one int y;}", flaw("a", 1)),
		conflict("several", was, "message a{1 one text x;2 one text y;3 one int z;}", "message a{1 one bool x;2 one bool y;3 one int v;}", flaw("a", 1), flaw("a", 2), flaw("a", 3)),
	})
}

func TestMergedGoneIds(t *testing.T) {
	const was = "message a{1 one int x;gone 5;}"
	check(t, []mergeCase{
		merges("each makes one gone", was, "message a{1 one int x;gone 4 5;}", "message a{1 one int x;gone 5 30;}", "message a{1 one int x;gone 4 5 30;}"),
		merges("a field is gone", was, "message a{gone 1 5;}", was, "message a{gone 1 5;}"),
		merges("one takes it out, one makes it gone", was, "message a{gone 5;}", "message a{gone 1 5;}", "message a{gone 1 5;}"),
		merges("both make it gone", was, "message a{gone 1 5;}", "message a{gone 1 5;}", "message a{gone 1 5;}"),
		merges("one is gone no more", was, "message a{1 one int x;}", "message a{1 one int x;gone 5 6;}", "message a{1 one int x;gone 6;}"),
		merges("a gone one becomes a field", was, "message a{1 one int x;5 one int y;}", was, "message a{1 one int x;5 one int y;}"),
		merges("one becomes a field, one is gone no more", was, "message a{1 one int x;5 one int y;}", "message a{1 one int x;}", "message a{1 one int x;5 one int y;}"),
		conflict("one adds it, one makes it gone", was, "message a{1 one int x;3 one int y;gone 5;}", "message a{1 one int x;gone 3 5;}", flaw("a", 3)),
		conflict("of a new type", "", "message a{1 one int x;}", "message a{gone 1;}", flaw("a", 1)),
		conflict("one changes it, one makes it gone", was, "message a{1 one text x;gone 5;}", "message a{gone 1 5;}", flaw("a", 1)),
		conflict("both make other fields of it", was, "message a{1 one int x;5 one int y;}", "message a{1 one int x;5 one text y;}", flaw("a", 5)),
		conflict("of what was an enum", "enum a{0 p;}", "message a{7 one int x;}", "message a{gone 7;}", flaw("a", 7)),
		conflict("by ids, whatever kind they are", was, "message a{1 one text x;3 one int y;4 one int z;gone 5;}", "message a{1 one bool x;4 one int v;gone 3 5;}", flaw("a", 1), flaw("a", 3), flaw("a", 4)),
	})
}

func TestMergedItems(t *testing.T) {
	const was = "enum e{0 p;1 q;}"
	check(t, []mergeCase{
		merges("each adds one", was, "enum e{-1 o;0 p;1 q;}", "enum e{0 p;1 q;7 r;}", "enum e{-1 o;0 p;1 q;7 r;}"),
		merges("each changes one", was, "enum e{0 s;1 q;}", "enum e{0 p;1 t;}", "enum e{0 s;1 t;}"),
		merges("one takes one out, one changes one", was, "enum e{0 p;}", "enum e{0 s;1 q;}", "enum e{0 s;}"),
		merges("names change places", was, "enum e{0 q;1 p;}", was, "enum e{0 q;1 p;}"),
		merges("a name goes to another number", was, "enum e{0 p;2 q;}", was, "enum e{0 p;2 q;}"),
		merges("the greatest and the least", was, "enum e{0 p;1 q;1099511627776 r;}", "enum e{-1099511627776 o;0 p;1 q;}", "enum e{-1099511627776 o;0 p;1 q;1099511627776 r;}"),
		conflict("both give it another name", was, "enum e{0 p;1 r;}", "enum e{0 p;1 s;}", flaw("e", 1)),
		conflict("of number 0", was, "enum e{0 r;1 q;}", "enum e{0 s;1 q;}", flaw("e", 0)),
		conflict("one changes it, one takes it out", was, "enum e{0 p;}", "enum e{0 p;1 s;}", flaw("e", 1)),
		conflict("both add one of a number", was, "enum e{0 p;1 q;2 r;}", "enum e{0 p;1 q;2 s;}", flaw("e", 2)),
		conflict("both add a type with one", "", "enum e{0 p;}", "enum e{0 q;}", flaw("e", 0)),
		conflict("changed in a type that is taken out", was, "", "enum e{0 p;1 r;}", flaw("e", 1)),
		conflict("changed in a message that it was not", was, "message e{}", "enum e{0 p;1 r;}", flaw("e", 1)),
		conflict("of the least number", was, "enum e{0 p;1 q;-1099511627776 r;}", "enum e{0 p;1 q;-1099511627776 s;}", flaw("e", -api.MaxNumber)),
		conflict("of the greatest number", was, "enum e{0 p;1 q;1099511627776 r;}", "enum e{0 p;1 q;1099511627776 s;}", flaw("e", api.MaxNumber)),
		// That 0 is told once: it is no flaw of the name besides.
		conflict("by numbers that rise", "enum e{-2 m;-1 n;0 o;1 p;10 q;}", "enum e{-2 a;-1 b;0 c;1 d;10 e;}", "enum e{-2 f;-1 g;0 h;1 i;10 j;}",
			flaw("e", -2), flaw("e", -1), flaw("e", 0), flaw("e", 1), flaw("e", 10)),
	})
}

// P5.3

func TestWhatMayNotBeInAType(t *testing.T) {
	const message, enum = "message n{1 one int x;gone 2;}", "enum n{0 p;}"
	check(t, []mergeCase{
		conflict("taken out, and a field more", message, "", "message n{1 one int x;3 one int y;gone 2;}", flaw("n", 0)),
		conflict("taken out, and a gone id more", message, "", "message n{1 one int x;gone 2 3;}", flaw("n", 0)),
		conflict("taken out, and a field that is gone", message, "", "message n{gone 1 2;}", flaw("n", 0)),
		conflict("taken out, and an item more", enum, "", "enum n{0 p;1 q;}", flaw("n", 0)),
		merges("taken out, and a field less", message, "", "message n{gone 2;}", ""),
		merges("taken out, and a gone id less", message, "", "message n{1 one int x;}", ""),
		merges("taken out, and an item less", "enum n{0 p;1 q;}", "", "enum n{1 q;}", ""),
		conflict("an enum, and a field more", message, enum, "message n{1 one int x;3 one int y;gone 2;}", flaw("n", 0)),
		conflict("an enum, and a gone id more", message, enum, "message n{1 one int x;gone 2 3;}", flaw("n", 0)),
		merges("an enum, and a field less", message, enum, "message n{gone 2;}", enum),
		conflict("a message, and an item more", enum, message, "enum n{0 p;1 q;}", flaw("n", 0)),
		merges("a message, and an item less", "enum n{0 p;1 q;}", message, "enum n{0 p;}", message),
		conflict("a message of nothing, and an item more", enum, "message n{}", "enum n{0 p;1 q;}", flaw("n", 0)),
	})
}

// The flaw of the name is told only where nothing in the type is one, whatever is in other types.
func TestFlawOfANameOrOfWhatIsInIt(t *testing.T) {
	check(t, []mergeCase{
		conflict("a field, and one more", "message n{1 one int x;}", "", "message n{1 one text x;2 one int y;}", flaw("n", 1)),
		conflict("an item, and one more", "enum n{3 p;}", "", "enum n{3 q;4 r;}", flaw("n", 3)),
		conflict("a field in an enum, and one more", "message n{1 one int x;}", "enum n{0 p;}", "message n{1 one text x;2 one int y;}", flaw("n", 1)),
		conflict("an item in a message, and one more", "enum n{3 p;}", "message n{1 one int x;}", "enum n{3 q;4 r;}", flaw("n", 3)),
		conflict("a field of another type", "message m{1 one int x;}message n{1 one int x;}", "message m{1 one bool x;}", "message m{1 one text x;}message n{1 one int x;2 one int y;}", flaw("m", 1), flaw("n", 0)),
	})
}

func TestOrderOfFlaws(t *testing.T) {
	was := "message aa{1 one int x;2 one int y;}message b{1 one int x;}enum c{-1 o;0 p;1 q;}"
	a := "message aa{1 one int p;2 one int q;9 one int v;}message d{1 one int x;}enum c{-1 a;0 p;1 r;}"
	b := "message aa{1 one int r;2 one int s;10 one int w;gone 9;}message b{1 one int x;gone 4;}enum c{-1 b;0 p;1 s;}enum d{0 p;}"
	check(t, []mergeCase{conflict("all of them", was, a, b,
		flaw("aa", 1), flaw("aa", 2), flaw("aa", 9), flaw("b", 0), flaw("c", -1), flaw("c", 1), flaw("d", 0))})
	// Names rise by their bytes, not by how long they are.
	check(t, []mergeCase{conflict("names", "", "message b{}message aa{}message a{}message ab{}", "enum b{0 p;}enum aa{0 p;}enum a{0 p;}enum ab{0 p;}",
		flaw("a", 0), flaw("aa", 0), flaw("ab", 0), flaw("b", 0))})
}

func TestWhatComesOfItIsNotGood(t *testing.T) {
	const was = "message a{1 one int x;}enum e{0 p;1 q;}"
	check(t, []mergeCase{
		fails("two fields of one name", was, "message a{1 one int x;2 one int z;}enum e{0 p;1 q;}", "message a{1 one int x;3 one int z;}enum e{0 p;1 q;}", api.ErrForm),
		fails("two items of one name", was, "message a{1 one int x;}enum e{0 p;1 q;2 r;}", "message a{1 one int x;}enum e{0 p;1 q;3 r;}", api.ErrForm),
		fails("an enum of nothing", was, "message a{1 one int x;}enum e{0 p;}", "message a{1 one int x;}enum e{1 q;}", api.ErrForm),
		fails("a field of a type that is taken out", was, "message a{1 one int x;}", "message a{1 one int x;2 maybe e y;}enum e{0 p;1 q;}", api.ErrForm),
		fails("a field of a type that is a message now", was, "message a{1 one int x;}message e{}", "message a{1 one int x;2 maybe e y;}enum e{0 p;1 q;}", api.ErrForm),
		fails("more fields than may be", was, "message a{1 one int x;2 one int p;3 one int q;}enum e{0 p;1 q;}", "message a{1 one int x;4 one int r;5 one int s;6 one int t;}enum e{0 p;1 q;}", api.ErrForm),
		fails("more items than may be", was, "message a{1 one int x;}enum e{0 p;1 q;2 r;3 s;4 t;}", "message a{1 one int x;}enum e{0 p;1 q;5 u;6 v;}", api.ErrForm),
		fails("more types than may be", was, "message a{1 one int x;}enum e{0 p;1 q;}message b{}message c{}", "message a{1 one int x;}enum e{0 p;1 q;}message d{}", api.ErrLong),
		fails("messages that need each other", "message a{}message b{}", "message a{1 one b x;}message b{}", "message a{}message b{1 one a x;}", api.ErrLong),
		fails("more in the least than may be", "message a{1 one b x;2 one b y;}message b{1 one int p;2 one int q;}",
			"message a{1 one b x;2 one b y;3 one b z;}message b{1 one int p;2 one int q;}", "message a{1 one b x;2 one b y;}message b{1 one int p;2 one int q;3 one int r;}", api.ErrLong),
		// Flaws are told ahead of that.
		conflict("and a flaw", was, "message a{1 one text x;2 one int z;}enum e{0 p;1 q;}", "message a{1 one bool x;3 one int z;}enum e{0 p;1 q;}", flaw("a", 1)),
		conflict("more types, and a flaw", was, "message a{1 one text x;}enum e{0 p;1 q;}message b{}message c{}", "message a{1 one bool x;}enum e{0 p;1 q;}message d{}", flaw("a", 1)),
		// As many as may be is none too many.
		merges("all types", was, "message a{1 one int x;}enum e{0 p;1 q;}message b{}", "message a{1 one int x;}enum e{0 p;1 q;}message d{}", "message a{1 one int x;}enum e{0 p;1 q;}message b{}message d{}"),
		merges("all fields", was, "message a{1 one int x;2 one int p;3 one int q;}enum e{0 p;1 q;}", "message a{1 one int x;4 one int r;5 one int s;}enum e{0 p;1 q;}", "message a{1 one int x;2 one int p;3 one int q;4 one int r;5 one int s;}enum e{0 p;1 q;}"),
	})
}

// What holds everywhere.

// roomy is a book alike, whose lists have spare room in which something stands.
func roomy(b api.Book) api.Book {
	out := append(copied(b).Types, api.Type{Name: "spare", Gone: []int{1}})
	for i, t := range out {
		out[i].Fields = append(t.Fields, api.Field{Id: 9, Name: "spare"})[:len(t.Fields)]
		out[i].Gone = append(t.Gone, 99)[:len(t.Gone)]
		out[i].Items = append(t.Items, api.Item{Name: "spare", N: 9})[:len(t.Items)]
	}
	return api.Book{Types: out[:len(b.Types)]}
}

// rooms is a copy of all that a book holds, with its spare room.
func rooms(b api.Book) []api.Type {
	var l []api.Type
	for _, t := range b.Types[:cap(b.Types)] {
		t.Fields = append([]api.Field(nil), t.Fields[:cap(t.Fields)]...)
		t.Gone = append([]int(nil), t.Gone[:cap(t.Gone)]...)
		t.Items = append([]api.Item(nil), t.Items[:cap(t.Items)]...)
		l = append(l, t)
	}
	return l
}

// spoil writes into all memory of a book.
func spoil(b api.Book) {
	for _, t := range b.Types {
		clear(t.Fields[:cap(t.Fields)])
		clear(t.Gone[:cap(t.Gone)])
		clear(t.Items[:cap(t.Items)])
	}
	clear(b.Types[:cap(b.Types)])
}

func TestBooksKeepsToItsOwnMemory(t *testing.T) {
	const was = "message a{1 one int x;gone 2;}enum e{0 p;}"
	for _, l := range [][3]string{
		{was, was, was},
		{was, "message a{1 one int x;gone 2;}enum e{0 p;1 q;}", "message a{1 one int x;3 one int y;gone 2 4;}enum e{0 p;}"},
		{"", was, ""},
		{"", "", was},
		{was, "", was},
		{was, "message a{1 one text x;gone 2;}enum e{0 q;}", "message a{1 one bool x;gone 2;}enum e{0 r;}"},
	} {
		w, a, b := roomy(parse(t, l[0])), roomy(parse(t, l[1])), roomy(parse(t, l[2]))
		before := [3][]api.Type{rooms(w), rooms(a), rooms(b)}
		x, flaws, e := merge.Books(w, a, b)
		merge.Same(a, b)
		if after := [3][]api.Type{rooms(w), rooms(a), rooms(b)}; !reflect.DeepEqual(before, after) {
			t.Errorf("%q: changed what was handed in: %+v", l, after)
		}
		y, again, f := merge.Books(w, a, b)
		if !merge.Same(x, y) || !reflect.DeepEqual(flaws, again) || e != f {
			t.Errorf("%q: another answer: %+v, %+v, %d", l, y, again, f)
		}
		spoil(x)
		if after := [3][]api.Type{rooms(w), rooms(a), rooms(b)}; !reflect.DeepEqual(before, after) {
			t.Errorf("%q: shares memory with what was handed in", l)
		}
	}
}
