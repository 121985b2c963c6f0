package value_test

import (
	"math"
	"slices"
	"strings"
	"testing"

	"patternbook/api"
	"patternbook/value"
)

// P3.2

// each is a book with a field of each kind, none of which need be there.
const each = "message m{1 maybe bool b;2 maybe int i;3 maybe text t;4 maybe e k;5 maybe o m;}message o{1 maybe int i;}enum e{-5 a;0 b;7 c;}"

const (
	atBool    = 1
	atInt     = 2
	atText    = 3
	atEnum    = 4
	atMessage = 5
)

// one: a value at a field of each, and what is wrong with it there.
type one struct {
	id   int
	v    api.Value
	want api.Errno
}

func ones() []one {
	most := strings.Repeat("x", api.MaxText)
	l := []one{
		{atBool, number(0), api.OK}, {atBool, number(1), api.OK},
		{atBool, number(2), api.ErrItem}, {atBool, number(-1), api.ErrItem},
		{atBool, number(api.MaxNumber + 1), api.ErrItem}, {atBool, number(math.MinInt), api.ErrItem},
		{atInt, number(0), api.OK}, {atInt, number(-77), api.OK},
		{atInt, number(api.MaxNumber), api.OK}, {atInt, number(-api.MaxNumber), api.OK},
		{atInt, number(api.MaxNumber + 1), api.ErrRange}, {atInt, number(-api.MaxNumber - 1), api.ErrRange},
		{atInt, number(math.MaxInt), api.ErrRange}, {atInt, number(math.MinInt), api.ErrRange},
		{atText, text(""), api.OK}, {atText, text("a\x00\n\x7f"), api.OK}, {atText, text(most), api.OK},
		{atText, text(most + "x"), api.ErrForm}, {atText, text(strings.Repeat("x", 100000)), api.ErrForm},
		{atText, text("\x80"), api.ErrForm}, {atText, text("\xff"), api.ErrForm}, {atText, text("ü"), api.ErrForm},
		{atText, text(most[1:] + "\x80"), api.ErrForm}, {atText, text("\x80" + most[1:]), api.ErrForm},
		{atEnum, number(-5), api.OK}, {atEnum, number(0), api.OK}, {atEnum, number(7), api.OK},
		{atEnum, number(1), api.ErrItem}, {atEnum, number(-6), api.ErrItem}, {atEnum, number(8), api.ErrItem},
		{atEnum, number(api.MaxNumber + 1), api.ErrItem}, {atEnum, number(math.MinInt), api.ErrItem},
		{atMessage, message(), api.OK}, {atMessage, message(in{1, number(3)}), api.OK},
	}
	return slices.Concat(l, otherKinds(), otherKindsParts())
}

// otherKinds: whatever else is wrong with these, they are of another kind first.
func otherKinds() []one {
	var l []one
	for id := atBool; id <= atMessage; id++ {
		for _, kind := range []int{api.IsNumber, api.IsText, api.IsMessage, 3, -1, math.MaxInt, math.MinInt} {
			if id == atText && kind == api.IsText || id == atMessage && kind == api.IsMessage {
				continue
			}
			if kind == api.IsNumber && id != atText && id != atMessage {
				continue
			}
			l = append(l, one{id, api.Value{Kind: kind}, api.ErrWire},
				one{id, api.Value{Kind: kind, N: math.MaxInt, S: "\x80", Ids: []int{9}, L: make([]api.Value, 2)}, api.ErrWire})
		}
	}
	return l
}

// otherKindsParts: of the right kind, but with something that only others have; that is told ahead of what the number or text is.
func otherKindsParts() []one {
	var l []one
	kinds := map[int]int{atBool: api.IsNumber, atInt: api.IsNumber, atEnum: api.IsNumber, atText: api.IsText, atMessage: api.IsMessage}
	for id, kind := range kinds {
		var wrong []api.Value
		if kind != api.IsMessage {
			wrong = append(wrong, api.Value{Ids: []int{1}}, api.Value{L: make([]api.Value, 1)}, api.Value{Ids: []int{1}, L: make([]api.Value, 1)})
		}
		if kind == api.IsNumber {
			wrong = append(wrong, api.Value{N: math.MaxInt, S: "x"}, api.Value{S: "\x00"}, api.Value{N: 3, Ids: []int{1}})
		} else {
			wrong = append(wrong, api.Value{N: 1}, api.Value{N: -1}, api.Value{N: math.MinInt, S: "x"})
		}
		if kind == api.IsMessage {
			wrong = append(wrong, api.Value{S: "x"}, api.Value{S: "x", Ids: []int{9}, L: make([]api.Value, 1)})
		}
		for _, v := range wrong {
			v.Kind = kind
			l = append(l, one{id, v, api.ErrForm})
		}
	}
	return l
}

func TestOneOfAField(t *testing.T) {
	b := parse(t, each)
	for _, c := range ones() {
		if e := value.Typed(b, "m", message(in{c.id, c.v})); e != c.want {
			t.Errorf("at %d: %.80v: %d; wanted %d", c.id, c.v, e, c.want)
		}
	}
}

func TestOneOfAFieldWithEmptyLists(t *testing.T) {
	b := parse(t, each)
	for id, v := range map[int]api.Value{atBool: number(1), atInt: number(5), atText: text("a"), atEnum: number(7), atMessage: message()} {
		v.Ids, v.L = []int{}, []api.Value{}
		if e := value.Typed(b, "m", message(in{id, v})); e != api.OK {
			t.Errorf("at %d: %d", id, e)
		}
	}
}

// P3.3

// rules is a book with a field of each rule, and messages in messages.
const rules = "message m{2 one int a;4 maybe int b;6 many int c;8 maybe m m;10 many o o;}message o{1 one text t;3 many m m;}"

// typed: a value as one of m, and what is wrong with it.
type typed struct {
	name string
	v    api.Value
	want api.Errno
}

func checkTyped(t *testing.T, b api.Book, l []typed) {
	t.Helper()
	for _, c := range l {
		if e := value.Typed(b, "m", c.v); e != c.want {
			t.Errorf("%s: %d; wanted %d", c.name, e, c.want)
		}
		if s, e := value.Encode(b, "m", c.v); e != c.want || e != api.OK && s != "" {
			t.Errorf("%s: Encode: %q, %d; wanted %d", c.name, s, e, c.want)
		}
	}
}

func TestTyped(t *testing.T) {
	a, no := in{2, number(5)}, number(0)
	o := message(in{1, text("x")})
	checkTyped(t, parse(t, rules), []typed{
		{"what is always there", message(a), api.OK},
		{"all of it", message(a, in{4, no}, in{6, no}, in{8, message(a)}, in{10, o}), api.OK},
		{"many", message(a, in{6, no}, in{6, no}, in{6, no}, in{10, o}, in{10, o}), api.OK},
		{"messages in messages", message(a, in{8, message(a, in{8, message(a)})}, in{10, message(in{1, text("")}, in{3, message(a)}, in{3, message(a)})}), api.OK},

		{"a number", number(0), api.ErrWire},
		{"a text", text("x"), api.ErrWire},
		{"of no kind", api.Value{Kind: 3, Ids: []int{2}, L: []api.Value{no}}, api.ErrWire},
		{"of no kind below", api.Value{Kind: -2, Ids: []int{2}, L: []api.Value{no}}, api.ErrWire},
		{"a number, and more is wrong", api.Value{N: 3, S: "x", Ids: []int{2}}, api.ErrWire},

		{"more ids", api.Value{Kind: api.IsMessage, Ids: []int{2, 4}, L: []api.Value{no}}, api.ErrForm},
		{"more values", api.Value{Kind: api.IsMessage, Ids: []int{2}, L: []api.Value{no, no}}, api.ErrForm},
		{"no values", api.Value{Kind: api.IsMessage, Ids: []int{2}}, api.ErrForm},
		{"no ids", api.Value{Kind: api.IsMessage, L: []api.Value{no}}, api.ErrForm},
		{"a number of its own", api.Value{Kind: api.IsMessage, N: 1, Ids: []int{2}, L: []api.Value{no}}, api.ErrForm},
		{"a number below 0", api.Value{Kind: api.IsMessage, N: -1, Ids: []int{2}, L: []api.Value{no}}, api.ErrForm},
		{"a text of its own", api.Value{Kind: api.IsMessage, S: "x", Ids: []int{2}, L: []api.Value{no}}, api.ErrForm},
		{"more ids, none of which is one", api.Value{Kind: api.IsMessage, Ids: []int{9, 1}, L: []api.Value{no}}, api.ErrForm},
		{"a text, and an id that is none", api.Value{Kind: api.IsMessage, S: "x", Ids: []int{9}, L: []api.Value{no}}, api.ErrForm},

		{"an id that is no field's", message(a, in{3, no}), api.ErrNone},
		{"0", message(in{0, no}, a), api.ErrNone},
		{"the greatest", message(a, in{math.MaxInt, no}), api.ErrNone},
		{"below 0", message(in{math.MinInt, no}, a), api.ErrNone},

		{"ids that fall", message(in{4, no}, a), api.ErrForm},
		{"ids that fall behind many", message(a, in{6, no}, in{6, no}, in{4, no}), api.ErrForm},
		{"twice what is always there", message(a, a), api.ErrTwice},
		{"twice what may be there", message(a, in{4, no}, in{4, no}), api.ErrTwice},
		{"a message twice", message(a, in{8, message(a)}, in{8, message(a)}), api.ErrTwice},

		{"nothing", message(), api.ErrNone},
		{"what is always there lacks", message(in{4, no}, in{6, no}), api.ErrNone},
	})
}

func TestTypedWithin(t *testing.T) {
	a, no := in{2, number(5)}, number(0)
	at := func(v api.Value) api.Value { return message(a, in{8, message(a, in{8, v})}) }
	o := func(l ...in) api.Value { return message(a, in{10, message(l...)}) }
	x := in{1, text("x")}
	checkTyped(t, parse(t, rules), []typed{
		{"right", at(message(a)), api.OK},
		{"a number", at(no), api.ErrWire},
		{"more ids", at(api.Value{Kind: api.IsMessage, Ids: []int{2, 4}, L: []api.Value{no}}), api.ErrForm},
		{"a number of its own", at(api.Value{Kind: api.IsMessage, N: 1, Ids: []int{2}, L: []api.Value{no}}), api.ErrForm},
		{"a text of its own", at(api.Value{Kind: api.IsMessage, S: "x", Ids: []int{2}, L: []api.Value{no}}), api.ErrForm},
		{"an id that is none", at(message(a, in{3, no})), api.ErrNone},
		{"ids that fall", at(message(in{4, no}, a)), api.ErrForm},
		{"twice", at(message(a, a)), api.ErrTwice},
		{"of another kind", at(message(in{2, text("")})), api.ErrWire},
		{"out of bounds", at(message(in{2, number(math.MaxInt)})), api.ErrRange},
		{"what is always there lacks", at(message()), api.ErrNone},

		{"right, of the other type", o(x), api.OK},
		{"an id of the outer type's alone", o(x, in{2, no}), api.ErrNone},
		{"an id of both, of another kind", message(a, in{10, message(in{1, no})}), api.ErrWire},
		{"what the other type always has lacks", o(), api.ErrNone},
		{"a text too long", o(in{1, text(strings.Repeat("x", 41))}), api.ErrForm},
		{"within both", o(x, in{3, message()}), api.ErrNone},
	})
}

// What is wrong first is told, value by value, and of one value in the order of the chapter.
func TestTypedTellsWhatIsWrongFirst(t *testing.T) {
	a, no := in{2, number(5)}, number(0)
	bounds, wire, lacks := in{6, number(math.MaxInt)}, in{6, text("")}, in{8, message()}
	checkTyped(t, parse(t, rules), []typed{
		{"no field, and fallen", message(a, in{4, no}, in{3, no}), api.ErrNone},
		{"no field, twice", message(a, in{3, no}, in{3, no}), api.ErrNone},
		{"fallen, and of another kind", message(in{4, no}, in{2, text("")}), api.ErrForm},
		{"fallen, and there already", message(a, in{4, no}, a), api.ErrForm},
		{"twice, and of another kind", message(a, in{2, text("")}), api.ErrTwice},
		{"twice, and out of bounds", message(a, in{2, number(math.MinInt)}), api.ErrTwice},
		{"of another kind, and nothing of its type", message(a, in{8, api.Value{Ids: []int{3}}}), api.ErrWire},
		{"a number of its own, and an id that is none", message(a, in{8, api.Value{Kind: api.IsMessage, N: 1, Ids: []int{3}, L: make([]api.Value, 1)}}), api.ErrForm},

		{"a value, then an id that is none", message(a, bounds, in{7, no}), api.ErrRange},
		{"a value, then a fallen one", message(a, bounds, in{4, no}), api.ErrRange},
		{"a value, then another", message(a, wire, bounds), api.ErrWire},
		{"the other way round", message(a, bounds, wire), api.ErrRange},
		{"an id that is none, then a value", message(a, in{5, no}, bounds), api.ErrNone},
		{"within, then behind", message(a, lacks, in{9, no}), api.ErrNone},
		{"within, then twice", message(a, lacks, lacks), api.ErrNone},
		{"ahead, then within", message(a, wire, lacks), api.ErrWire},
		{"a value, and one lacks", message(bounds), api.ErrRange},
		{"twice, and one lacks", message(in{4, no}, in{4, no}), api.ErrTwice},
		{"within, and one lacks", message(in{8, message(bounds)}), api.ErrRange},
	})
}

func TestTypedTooLong(t *testing.T) {
	deep := "message m{1 maybe m m;2 maybe int i;3 many int l;}"
	inner := api.MaxDepth - 1
	checkTyped(t, parse(t, deep), []typed{
		{"as deep as may be", nested(inner, 1, message()), api.OK},
		{"as deep, of a number", nested(inner-1, 1, message(in{2, number(0)})), api.OK},
		{"deeper", nested(inner+1, 1, message()), api.ErrLong},
		{"deeper, of a number", nested(inner, 1, message(in{2, number(0)})), api.ErrLong},
		{"as many as may be", times(api.MaxCount-1, 3, number(0)), api.OK},
		{"more", times(api.MaxCount, 3, number(0)), api.ErrLong},
		{"far more", times(100000, 3, number(0)), api.ErrLong},
		{"as many, of both", message(in{1, times(api.MaxCount-2, 3, number(0))}), api.OK},
		{"more, of both", message(in{1, times(api.MaxCount-2, 3, number(0))}, in{2, number(0)}), api.ErrLong},

		{"ahead of what it is", api.Value{Kind: api.IsText, N: 3, L: make([]api.Value, api.MaxCount)}, api.ErrLong},
		{"ahead of its form", api.Value{Kind: api.IsMessage, L: make([]api.Value, api.MaxCount)}, api.ErrLong},
		{"ahead of its ids", times(api.MaxCount, 9, number(0)), api.ErrLong},
		{"ahead of the order, too deep", message(in{3, number(0)}, in{1, nested(inner, 1, message())}), api.ErrLong},
		{"too deep where nothing may be", message(in{2, nested(inner, 1, message())}), api.ErrLong},
		{"not too deep where nothing may be", message(in{2, nested(inner-1, 1, message())}), api.ErrWire},
		{"not too many without ids", api.Value{Kind: api.IsMessage, L: make([]api.Value, api.MaxCount-1)}, api.ErrForm},
	})
}

// Ids are not values: that they are many is a matter of form.
func TestTypedManyIds(t *testing.T) {
	b := parse(t, "message m{1 many int l;}")
	v := api.Value{Kind: api.IsMessage, Ids: make([]int, 100000)}
	if e := value.Typed(b, "m", v); e != api.ErrForm {
		t.Error(e)
	}
}

// What is handed in stays as it is, and its spare room does.
func TestValuesAreNotChanged(t *testing.T) {
	b := parse(t, rules)
	whole := message(in{2, number(5)}, in{8, message(in{2, number(3)})}, in{99, number(99)})
	before := message(in{2, number(5)}, in{8, message(in{2, number(3)})}, in{99, number(99)})
	v := api.Value{Kind: api.IsMessage, Ids: whole.Ids[:2], L: whole.L[:2]}
	if s, e := value.Encode(b, "m", v); e != api.OK {
		t.Fatalf("%q, %d", s, e)
	}
	if e := value.Typed(b, "m", v); e != api.OK {
		t.Error(e)
	}
	value.Size(v)
	if !alike(whole, before) {
		t.Errorf("%+v", whole)
	}
}
