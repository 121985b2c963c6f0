package value_test

import (
	"math"
	"strings"
	"testing"

	"patternbook/api"
	"patternbook/book"
	"patternbook/value"
)

func number(n int) api.Value { return api.Value{Kind: api.IsNumber, N: n} }

func text(s string) api.Value { return api.Value{Kind: api.IsText, S: s} }

// in: a value, and the id at which it stands in a message.
type in struct {
	id int
	v  api.Value
}

func message(l ...in) api.Value {
	v := api.Value{Kind: api.IsMessage}
	for _, x := range l {
		v.Ids = append(v.Ids, x.id)
		v.L = append(v.L, x.v)
	}
	return v
}

// times is a message of n values alike, all at one id.
func times(n, id int, v api.Value) api.Value {
	var l []in
	for range n {
		l = append(l, in{id, v})
	}
	return message(l...)
}

// nested is n messages, one in another at that id, around v.
func nested(n, id int, v api.Value) api.Value {
	for range n {
		v = message(in{id, v})
	}
	return v
}

func parse(t *testing.T, s string) api.Book {
	t.Helper()
	b, e := book.Parse(s)
	if e != api.OK {
		t.Fatalf("%s: %d", s, e)
	}
	return b
}

// alike is whether two values tell the same; a list without elements may be nil or not.
func alike(a, b api.Value) bool {
	if a.Kind != b.Kind || a.N != b.N || a.S != b.S || len(a.Ids) != len(b.Ids) || len(a.L) != len(b.L) {
		return false
	}
	for i := range a.Ids {
		if a.Ids[i] != b.Ids[i] {
			return false
		}
	}
	for i := range a.L {
		if !alike(a.L[i], b.L[i]) {
			return false
		}
	}
	return true
}

func empty(v api.Value) bool { return alike(v, api.Value{}) }

// P3.1

func TestSize(t *testing.T) {
	for _, c := range []struct {
		name         string
		v            api.Value
		depth, count int
	}{
		{"a number", number(7), 1, 1},
		{"a text", text("abc"), 1, 1},
		{"an empty message", message(), 1, 1},
		{"lists without elements", api.Value{Kind: api.IsMessage, Ids: []int{}, L: []api.Value{}}, 1, 1},
		{"ids without values", api.Value{Kind: api.IsMessage, Ids: []int{1, 2}}, 1, 1},
		{"values without ids", api.Value{Kind: api.IsMessage, L: make([]api.Value, 2)}, 2, 3},
		{"one in it", message(in{1, number(0)}), 2, 2},
		{"three in it", times(3, 1, text("a")), 2, 4},
		{"empty messages in it", times(3, 1, message()), 2, 4},
		{"the first is the deeper", message(in{1, times(2, 1, number(0))}, in{2, number(0)}), 3, 5},
		{"the last is the deeper", message(in{1, number(0)}, in{2, times(2, 1, number(0))}), 3, 5},
		{"the one between is the deepest", message(in{1, message(in{1, number(0)})}, in{2, nested(3, 1, number(0))}, in{3, times(5, 1, number(0))}), 5, 13},
		{"a number with others in it", api.Value{L: []api.Value{{L: make([]api.Value, 3)}}}, 3, 5},
		{"of a kind that is none", api.Value{Kind: -9, L: []api.Value{{Kind: 44, L: make([]api.Value, 1)}}}, 3, 3},
		{"as deep as may be", nested(api.MaxDepth-1, 1, number(0)), api.MaxDepth, api.MaxDepth},
		{"deeper than may be", nested(1000, 1, number(0)), 1001, 1001},
		{"more than may be", times(5000, 1, number(0)), 2, 5001},
		{"many times many", times(100, 1, times(100, 1, number(0))), 3, 10101},
	} {
		if depth, count := value.Size(c.v); depth != c.depth || count != c.count {
			t.Errorf("%s: %d, %d", c.name, depth, count)
		}
	}
}

func TestSizeOfSharedLists(t *testing.T) {
	v := number(1)
	for range 20 {
		v = message(in{1, v}, in{2, v})
	}
	if depth, count := value.Size(v); depth != 21 || count != 1<<21-1 {
		t.Errorf("%d, %d", depth, count)
	}
}

// A value may stand far deeper than calls can: such ones end, too, and are told to be too long at once.
func TestVeryDeepValues(t *testing.T) {
	const many = 4 << 20
	v := nested(many, 1, number(0))
	if depth, count := value.Size(v); depth != many+1 || count != many+1 {
		t.Errorf("%d, %d", depth, count)
	}
	b := parse(t, "message m{1 maybe m m;}")
	if e := value.Typed(b, "m", v); e != api.ErrLong {
		t.Errorf("Typed: %d", e)
	}
	if s, e := value.Encode(b, "m", v); s != "" || e != api.ErrLong {
		t.Errorf("Encode: %q, %d", s, e)
	}
}

// What holds itself has no end: it is too long, and that is found out.
func TestEndlessValues(t *testing.T) {
	b := parse(t, "message m{1 many m m;}")
	for _, wide := range []int{1, 2, 3} {
		l, ids := make([]api.Value, wide), make([]int, wide)
		for i := range l {
			ids[i] = 1
			l[i] = api.Value{Kind: api.IsMessage, Ids: ids, L: l}
		}
		if e := value.Typed(b, "m", l[0]); e != api.ErrLong {
			t.Errorf("Typed, %d in each: %d", wide, e)
		}
		if s, e := value.Encode(b, "m", l[0]); s != "" || e != api.ErrLong {
			t.Errorf("Encode, %d in each: %q, %d", wide, s, e)
		}
	}
}

func TestKind(t *testing.T) {
	for kind, want := range map[int]int{
		api.Bool: api.IsNumber, api.Int: api.IsNumber, api.Enum: api.IsNumber,
		api.Text: api.IsText, api.Message: api.IsMessage,
		0: api.IsNumber, 6: api.IsNumber, -3: api.IsNumber, math.MaxInt: api.IsNumber, math.MinInt: api.IsNumber,
	} {
		if k := value.Kind(kind); k != want {
			t.Errorf("%d: %d", kind, k)
		}
	}
}

// badBooks are some that are not good, whether Good says ErrForm or ErrLong of them.
func badBooks() map[string]api.Book {
	field := func(kind int, name string, rule int) api.Field {
		return api.Field{Id: 1, Name: "f", Type: name, Kind: kind, Rule: rule}
	}
	return map[string]api.Book{
		"a name that is none":         {Types: []api.Type{{Name: "M"}}},
		"a type twice":                {Types: []api.Type{{Name: "m"}, {Name: "m"}}},
		"a field of no kind":          {Types: []api.Type{{Name: "m", Fields: []api.Field{field(0, "", api.One)}}}},
		"a field of no rule":          {Types: []api.Type{{Name: "m", Fields: []api.Field{field(api.Int, "", 0)}}}},
		"an enum that is not there":   {Types: []api.Type{{Name: "m", Fields: []api.Field{field(api.Enum, "e", api.One)}}}},
		"a message that is not there": {Types: []api.Type{{Name: "m", Fields: []api.Field{field(api.Message, "e", api.One)}}}},
		"an enum of nothing":          {Types: []api.Type{{Name: "e", Enum: true}, {Name: "m", Fields: []api.Field{field(api.Enum, "e", api.One)}}}},
		"more types than may be":      {Types: []api.Type{{Name: "a"}, {Name: "b"}, {Name: "c"}, {Name: "d"}, {Name: "m"}}},
		"a message that needs itself": {Types: []api.Type{{Name: "m", Fields: []api.Field{field(api.Message, "m", api.One)}}}},
	}
}

func TestABookThatIsNotGood(t *testing.T) {
	for what, b := range badBooks() {
		// What else is wrong is told later only.
		for _, name := range []string{"m", "x", ""} {
			for _, v := range []api.Value{message(), number(3), times(api.MaxCount, 1, number(0))} {
				if e := value.Typed(b, name, v); e != api.ErrForm {
					t.Errorf("%s, %q: Typed: %d", what, name, e)
				}
				if s, e := value.Encode(b, name, v); s != "" || e != api.ErrForm {
					t.Errorf("%s, %q: Encode: %q, %d", what, name, s, e)
				}
			}
			for _, s := range []string{"", "\x04\x00", strings.Repeat("x", api.MaxBytes+1)} {
				if v, e := value.Decode(b, name, s); !empty(v) || e != api.ErrForm {
					t.Errorf("%s, %q: Decode: %+v, %d", what, name, v, e)
				}
			}
			if v, e := value.Least(b, name); !empty(v) || e != api.ErrForm {
				t.Errorf("%s, %q: Least: %+v, %d", what, name, v, e)
			}
			for _, id := range []int{0, 1, 9} {
				if v, e := value.LeastOf(b, name, id); !empty(v) || e != api.ErrForm {
					t.Errorf("%s, %q: LeastOf %d: %+v, %d", what, name, id, v, e)
				}
			}
		}
	}
}

func TestAMessageThatIsNotThere(t *testing.T) {
	b := parse(t, "enum e{0 a;}message m{1 one e f;}")
	for _, b := range []api.Book{b, {}} {
		for _, name := range []string{"e", "x", "", "M", "mm", "int"} {
			for _, v := range []api.Value{message(), number(3), times(api.MaxCount, 1, number(0))} {
				if e := value.Typed(b, name, v); e != api.ErrNone {
					t.Errorf("%q: Typed: %d", name, e)
				}
				if s, e := value.Encode(b, name, v); s != "" || e != api.ErrNone {
					t.Errorf("%q: Encode: %q, %d", name, s, e)
				}
			}
			for _, s := range []string{"", "x", strings.Repeat("x", api.MaxBytes+1)} {
				if v, e := value.Decode(b, name, s); !empty(v) || e != api.ErrNone {
					t.Errorf("%q: Decode: %+v, %d", name, v, e)
				}
			}
			if v, e := value.Least(b, name); !empty(v) || e != api.ErrNone {
				t.Errorf("%q: Least: %+v, %d", name, v, e)
			}
		}
	}
}
