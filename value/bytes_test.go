package value_test

import (
	"math"
	"math/rand"
	"strings"
	"testing"

	"patternbook/api"
	"patternbook/book"
	"patternbook/value"
	"patternbook/wire"
)

// P3.5

// telling: a value of m by rules, and the bytes that it has.
type telling struct {
	name  string
	v     api.Value
	bytes string
}

func tellings() []telling {
	a := in{2, number(-1)}
	o := message(in{1, text("hi")})
	long := []in{{2, number(0)}}
	for range 64 {
		long = append(long, in{6, number(0)})
	}
	return []telling{
		{"a number", message(a), "\x08\x01"},
		{"the greatest", message(in{2, number(api.MaxNumber)}), "\x08\x80\x80\x80\x80\x80\x40"},
		{"the least", message(in{2, number(-api.MaxNumber)}), "\x08\xff\xff\xff\xff\xff\x3f"},
		{"many", message(a, in{6, number(5)}, in{6, number(0)}, in{6, number(5)}), "\x08\x01\x18\x0a\x18\x00\x18\x0a"},
		{"a message", message(a, in{8, message(in{2, number(1)})}), "\x08\x01\x22\x02\x08\x02"},
		{"texts in messages", message(a, in{10, o}, in{10, o}), "\x08\x01\x2a\x04\x05\x02hi\x2a\x04\x05\x02hi"},
		{"an empty text", message(a, in{10, message(in{1, text("")})}), "\x08\x01\x2a\x02\x05\x00"},
		{"one in another", message(a, in{8, message(a, in{8, message(a)})}), "\x08\x01\x22\x06\x08\x01\x22\x02\x08\x01"},
		{"a long message", message(a, in{8, message(long...)}), "\x08\x01\x22\x82\x01\x08\x00" + strings.Repeat("\x18\x00", 64)},
	}
}

func TestEncode(t *testing.T) {
	b := parse(t, rules)
	for _, c := range tellings() {
		if s, e := value.Encode(b, "m", c.v); s != c.bytes || e != api.OK {
			t.Errorf("%s: %q, %d", c.name, s, e)
		}
	}
}

func TestEncodeOfNothing(t *testing.T) {
	b := parse(t, "message m{1 maybe m m;}")
	for want, v := range map[string]api.Value{"": message(), "\x06\x00": nested(1, 1, message()), "\x06\x02\x06\x00": nested(2, 1, message())} {
		if s, e := value.Encode(b, "m", v); s != want || e != api.OK {
			t.Errorf("%q: %q, %d", want, s, e)
		}
		if w, e := value.Decode(b, "m", want); !alike(v, w) || e != api.OK {
			t.Errorf("%q: %+v, %d", want, w, e)
		}
	}
}

// As many bytes as a value can have are no more than may be.
func TestEncodeTheLongest(t *testing.T) {
	b := parse(t, "message m{1 many text t;2 maybe m m;}")
	long := text(strings.Repeat("\x7f", api.MaxText))
	s, e := value.Encode(b, "m", times(api.MaxCount-1, 1, long))
	if e != api.OK || s != strings.Repeat("\x05\x28"+long.S, api.MaxCount-1) {
		t.Errorf("%d bytes, %d", len(s), e)
	}
}

// P3.6

func TestDecode(t *testing.T) {
	b := parse(t, rules)
	for _, c := range tellings() {
		if v, e := value.Decode(b, "m", c.bytes); e != api.OK || !alike(v, c.v) {
			t.Errorf("%s: %+v, %d", c.name, v, e)
		}
	}
}

func TestDecodeGoesPastWhatItDoesNotKnow(t *testing.T) {
	b := parse(t, "message m{3 many int i;6 maybe o o;gone 5;}message o{2 maybe int j;}")
	three := message(in{3, number(1)})
	for _, c := range []telling{
		{"ahead", three, "\x04\x00\x0c\x02"},
		{"behind", three, "\x0c\x02\x78\x00"},
		{"a text of any bytes", three, "\x0c\x02\x79\x03\x80\xff\x00"},
		{"a long text", three, "\x0c\x02\x79\x29" + strings.Repeat("x", 41)},
		{"a message that is none", three, "\x0c\x02\x7a\x01x"},
		{"twice", three, "\x05\x00\x05\x00\x0c\x02\x7a\x00\x78\x00\x79\x00"},
		{"of a gone id", three, "\x0c\x02\x14\x00"},
		{"between", message(in{3, number(1)}, in{6, message()}), "\x0c\x02\x10\x02\x1a\x00"},
		{"all of it", message(), "\x04\x02\x09\x01a"},
		{"within", message(in{6, message(in{2, number(0)})}), "\x1a\x08\x04\x08\x08\x00\x0e\x02xy"},
		{"the outer type's, within", message(in{6, message()}), "\x1a\x03\x0d\x01x"},
	} {
		if v, e := value.Decode(b, "m", c.bytes); e != api.OK || !alike(v, c.v) {
			t.Errorf("%s: %+v, %d", c.name, v, e)
		}
	}
}

func TestDecodeFillsWhatLacks(t *testing.T) {
	b := parse(t, leasts)
	for _, c := range []struct {
		kind  string
		bytes string
		want  api.Value
	}{
		{"a", "", leastA()},
		{"o", "", leastO()},
		{"p", "", leastP()},
		{"a", "\x14\x06", message(in{3, number(0)}, in{5, number(3)}, in{7, text("")}, in{9, number(-9)}, in{30, leastO()})},
		{"a", "\x0c\x02\x7a\x00", message(in{3, number(1)}, in{5, number(0)}, in{7, text("")}, in{9, number(-9)}, in{30, leastO()})},
		{"a", "\x24\x06\x7a\x04\x08\x00\x1a\x00", message(in{3, number(0)}, in{5, number(0)}, in{7, text("")}, in{9, number(3)}, in{30, message(in{2, number(0)}, in{6, leastP()})})},
		{"o", "\x11\x01a\x11\x00\x11\x01b", message(in{2, number(-9)}, in{4, text("a")}, in{4, text("")}, in{4, text("b")}, in{6, leastP()})},
		{"o", "\x04\x02\x22\x00", message(in{1, number(1)}, in{2, number(-9)}, in{6, leastP()}, in{8, leastA()})},
	} {
		v, e := value.Decode(b, c.kind, c.bytes)
		if e != api.OK || !alike(v, c.want) {
			t.Errorf("%s, %q: %+v, %d", c.kind, c.bytes, v, e)
		}
		if e := value.Typed(b, c.kind, v); e != api.OK {
			t.Errorf("%s, %q: Typed: %d", c.kind, c.bytes, e)
		}
	}
}

// A part tells a value: what is wrong with that as one of a field is wrong with the part.
func TestDecodeOneOfAField(t *testing.T) {
	b := parse(t, each)
	for _, c := range ones() {
		p := api.Part{Id: c.id, Kind: c.v.Kind, N: c.v.N, S: c.v.S}
		if c.v.Kind == api.IsMessage || len(c.v.Ids) > 0 || len(c.v.L) > 0 || !wire.Good(p) {
			continue
		}
		s, e := wire.Encode([]api.Part{p})
		if e != api.OK {
			continue
		}
		v, e := value.Decode(b, "m", s)
		if e != c.want || e == api.OK && !alike(v, message(in{c.id, c.v})) || e != api.OK && !empty(v) {
			t.Errorf("at %d: %.80v: %.80v, %d; wanted %d", c.id, c.v, v, e, c.want)
		}
	}
}

// misread: bytes, and why they are no m.
type misread struct {
	name, bytes string
	want        api.Errno
}

func checkDecode(t *testing.T, b api.Book, l []misread) {
	t.Helper()
	for _, c := range l {
		v, e := value.Decode(b, "m", c.bytes)
		if e != c.want || e != api.OK && !empty(v) {
			t.Errorf("%s: %.80v, %d; wanted %d", c.name, v, e, c.want)
		}
	}
}

func TestDecodeRefuses(t *testing.T) {
	checkDecode(t, parse(t, rules), []misread{
		{"no parts", "x", api.ErrForm},
		{"a part cut off", "\x08\x00\x08", api.ErrForm},
		{"no id", "\x00\x00", api.ErrForm},
		{"a number in more bytes than it takes", "\x08\x80\x00", api.ErrForm},
		{"too long", strings.Repeat("\x18\x00", api.MaxBytes/2) + "\x18", api.ErrLong},
		{"fallen", "\x10\x00\x08\x00", api.ErrForm},
		{"fallen behind many", "\x08\x00\x18\x00\x18\x00\x10\x00", api.ErrForm},
		{"fallen behind what is not known", "\x0c\x00\x08\x00", api.ErrForm},
		{"not known, and fallen", "\x08\x00\x04\x00", api.ErrForm},
		{"both not known, and fallen", "\x0c\x00\x04\x00", api.ErrForm},
		{"of another kind", "\x09\x00", api.ErrWire},
		{"a message of another kind", "\x0a\x00", api.ErrWire},
		{"a number where a message may be", "\x20\x00", api.ErrWire},
		{"a text where a message may be", "\x21\x00", api.ErrWire},
		{"twice what is always there", "\x08\x00\x08\x00", api.ErrTwice},
		{"twice what may be there", "\x10\x00\x10\x02", api.ErrTwice},
		{"a message twice", "\x22\x00\x22\x00", api.ErrTwice},
		{"many", "\x18\x00\x18\x00\x2a\x00\x2a\x00", api.OK},

		{"no parts within", "\x22\x01x", api.ErrForm},
		{"fallen within", "\x22\x04\x10\x00\x08\x00", api.ErrForm},
		{"of another kind within", "\x22\x02\x09\x00", api.ErrWire},
		{"twice within", "\x22\x04\x08\x00\x08\x00", api.ErrTwice},
		{"no text within", "\x2a\x03\x05\x01\x80", api.ErrForm},
		{"a long text within", "\x2a\x2b\x05\x29" + strings.Repeat("x", 41), api.ErrForm},
		{"two types further within", "\x2a\x06\x0e\x04\x22\x02\x09\x00", api.ErrWire},
		{"once in each of many", "\x2a\x02\x05\x00\x2a\x02\x05\x00", api.OK},
		{"once without and once within", "\x08\x00\x22\x02\x08\x00", api.OK},
		{"ids begin anew within", "\x10\x00\x22\x02\x08\x00", api.OK},
	})
}

// What is wrong first is told: all the parts', then part by part, in the order of the chapter.
func TestDecodeTellsWhatIsWrongFirst(t *testing.T) {
	checkDecode(t, parse(t, rules), []misread{
		{"parts at all, then their order", "\x10\x00\x08\x00x", api.ErrForm},
		{"parts at all, then their kind", "\x09\x00x", api.ErrForm},
		{"too long, then no parts", strings.Repeat("x", api.MaxBytes+1), api.ErrLong},
		{"fallen, then of another kind", "\x10\x00\x09\x00", api.ErrForm},
		{"fallen, then twice", "\x08\x00\x10\x00\x08\x00", api.ErrForm},
		{"of another kind, then twice", "\x08\x00\x09\x00", api.ErrWire},
		{"of another kind, then no parts within", "\x09\x01x", api.ErrWire},
		{"twice, then no parts within", "\x22\x00\x22\x01x", api.ErrTwice},
		{"the first part, then the next", "\x09\x00\x04\x00", api.ErrWire},
		{"the other way round", "\x0c\x00\x08\x00\x11\x00", api.ErrForm},
		{"within, then behind", "\x22\x02\x09\x00\x08\x00", api.ErrWire},
		{"within, then twice", "\x22\x02\x09\x00\x22\x00", api.ErrWire},
		{"ahead, then within", "\x08\x00\x08\x00\x22\x01x", api.ErrTwice},
	})
	checkDecode(t, parse(t, each), []misread{
		{"no item, then twice", "\x04\x00\x04\x04", api.ErrItem},
		{"no item of an enum, then twice", "\x10\x00\x10\x02", api.ErrItem},
		{"no text, then twice", "\x0d\x00\x0d\x01\x80", api.ErrForm},
	})
}

// chain is the bytes of n messages, one in another, each the only part of the one around it, around s.
func chain(t *testing.T, n, id int, s string) string {
	t.Helper()
	for range n {
		var e api.Errno
		if s, e = wire.Encode([]api.Part{{Id: id, Kind: api.IsMessage, S: s}}); e != api.OK {
			t.Fatal(e)
		}
	}
	return s
}

func TestDecodeTooDeep(t *testing.T) {
	inner := api.MaxDepth - 1
	checkDecode(t, parse(t, "message m{1 maybe m m;2 maybe int i;}"), []misread{
		{"as deep as may be", chain(t, inner, 1, ""), api.OK},
		{"deeper", chain(t, inner+1, 1, ""), api.ErrLong},
		{"far deeper", chain(t, 1000, 1, ""), api.ErrLong},
		{"deeper, ahead of its bytes", chain(t, inner+1, 1, "x"), api.ErrLong},
		{"as deep, its bytes", chain(t, inner, 1, "x"), api.ErrForm},
		{"as deep, of a number", chain(t, inner-1, 1, "\x08\x00"), api.OK},
		{"deeper, of a number", chain(t, inner, 1, "\x08\x00"), api.ErrLong},
		{"deeper, of a number, ahead of which something is wrong", chain(t, inner, 1, "\x08\x00\x08\x00"), api.ErrTwice},
		{"deeper, ahead of what is behind it", chain(t, inner+1, 1, "") + "\x09\x00", api.ErrLong},
		{"a number deeper only at the end, behind what is wrong", chain(t, inner, 1, "\x08\x00") + "\x09\x00", api.ErrWire},
		{"deeper, ahead of its being there twice", chain(t, inner, 1, "\x06\x00\x06\x00"), api.ErrLong},
		{"of another kind ahead of deeper", chain(t, inner, 1, "\x05\x00"), api.ErrWire},
		{"deeper where nothing is known", chain(t, 100, 3, ""), api.OK},
	})
	checkDecode(t, parse(t, "message m{1 maybe m m;2 many m l;}"), []misread{
		{"as deep, twice", chain(t, inner-1, 1, "\x06\x00\x06\x00"), api.ErrTwice},
		{"as deep, many", chain(t, inner-1, 1, "\x0a\x00\x0a\x00"), api.OK},
		{"deeper, many", chain(t, inner, 1, "\x0a\x00\x0a\x00"), api.ErrLong},
	})
}

// What lacks is filled in ahead of asking how deep and how large it is.
func TestDecodeTooLongByWhatLacks(t *testing.T) {
	inner := api.MaxDepth - 1
	checkDecode(t, parse(t, "message m{1 maybe m m;2 one int i;}"), []misread{
		{"as deep as may be", chain(t, inner-1, 1, ""), api.OK},
		{"deeper by a least number", chain(t, inner, 1, ""), api.ErrLong},
		{"deeper by a least number, behind what is wrong", chain(t, inner, 1, "") + "\x09\x00", api.ErrWire},
	})
	checkDecode(t, parse(t, "message m{1 many o o;}message o{1 one int a;2 one int b;}"), []misread{
		{"as many as may be", strings.Repeat("\x06\x00", 133), api.OK},
		{"more", strings.Repeat("\x06\x00", 134), api.ErrLong},
		{"more, behind what is wrong", strings.Repeat("\x06\x00", 134) + "\x05\x00", api.ErrWire},
		{"as many bytes as may be", strings.Repeat("\x06\x00", api.MaxBytes/2), api.ErrLong},
	})
}

func TestDecodeTooMany(t *testing.T) {
	most := strings.Repeat("\x04\x00", api.MaxCount-1)
	checkDecode(t, parse(t, "message m{1 many int i;2 maybe m m;}"), []misread{
		{"as many as may be", most, api.OK},
		{"one more", most + "\x04\x00", api.ErrLong},
		{"one more, of a message", most + "\x0a\x00", api.ErrLong},
		{"one more, that is not known", most + "\x0c\x00", api.OK},
		{"one more, then what is wrong", most + "\x04\x00\x09\x00", api.ErrWire},
		{"too many within, then what is wrong", chain(t, 1, 2, most) + "\x0a\x00", api.ErrTwice},
		{"as many, one of them around the others", chain(t, 1, 2, most[2:]), api.OK},
		{"one more, one of them around the others", chain(t, 1, 2, most), api.ErrLong},
	})
}

// An answer is the caller's: no two places of it share a list, and the book has none of its.
func TestDecodeIsNew(t *testing.T) {
	b := parse(t, "message m{1 many o o;2 one o p;}message o{1 one int i;}")
	for range 2 {
		v, e := value.Decode(b, "m", "\x06\x00\x06\x00")
		o := message(in{1, number(0)})
		if e != api.OK || !alike(v, message(in{1, o}, in{1, o}, in{2, o})) {
			t.Fatalf("%+v, %d", v, e)
		}
		v.L[1].L[0].N, v.L[1].Ids[0] = 77, 77
		if !alike(v.L[0], o) || !alike(v.L[2], o) {
			t.Errorf("%+v", v)
		}
	}
}

// books for values at random: their messages lead to each other and to themselves.
func books(t *testing.T) []api.Book {
	return []api.Book{parse(t, each), parse(t, rules), parse(t, leasts), parse(t, "message m{1 many m a;2 many m b;3 maybe m c;4 one o d;}message o{1 one int x;2 many text y;3 maybe m z;}")}
}

func randomMessage(r *rand.Rand, b api.Book, name string, deep int) api.Value {
	t, _ := book.Find(b, name)
	v := api.Value{Kind: api.IsMessage}
	for _, f := range t.Fields {
		n := r.Intn(4)
		if f.Rule == api.One {
			n = 1
		} else if deep == 0 {
			n = 0
		} else if f.Rule == api.Maybe {
			n = min(n, 1)
		}
		for range n {
			v.Ids = append(v.Ids, f.Id)
			v.L = append(v.L, randomOne(r, b, f, max(deep-1, 0)))
		}
	}
	return v
}

func randomOne(r *rand.Rand, b api.Book, f api.Field, deep int) api.Value {
	switch f.Kind {
	case api.Bool:
		return number(r.Intn(2))
	case api.Int:
		return number([]int{r.Intn(300) - 150, api.MaxNumber, -api.MaxNumber, r.Intn(api.MaxNumber)}[r.Intn(4)])
	case api.Text:
		return text(strings.Repeat(string(rune(r.Intn(128))), r.Intn(api.MaxText+1)))
	case api.Enum:
		t, _ := book.Find(b, f.Type)
		return number(t.Items[r.Intn(len(t.Items))].N)
	}
	return randomMessage(r, b, f.Type, deep)
}

// What is typed comes back from its bytes as it was.
func TestRoundTrip(t *testing.T) {
	r := rand.New(rand.NewSource(3))
	for _, b := range books(t) {
		for _, kind := range b.Types {
			if kind.Enum {
				continue
			}
			for i := range 300 {
				v := randomMessage(r, b, kind.Name, i%5)
				want := api.OK
				if depth, count := value.Size(v); depth > api.MaxDepth || count > api.MaxCount {
					want = api.ErrLong
				}
				s, e := value.Encode(b, kind.Name, v)
				if e != want || e != value.Typed(b, kind.Name, v) {
					t.Fatalf("%+v: %d", v, e)
				}
				if e != api.OK {
					continue
				}
				if w, e := value.Decode(b, kind.Name, s); e != api.OK || !alike(v, w) {
					t.Fatalf("%q: %+v, %d", s, w, e)
				}
			}
		}
	}
}

// Whatever bytes are read, what they tell is typed, and has bytes that tell the same.
func TestDecodeOfAnyBytes(t *testing.T) {
	r := rand.New(rand.NewSource(5))
	read := 0
	for _, b := range books(t) {
		for range 4000 {
			kind := b.Types[r.Intn(len(b.Types))].Name
			v, e := value.Decode(b, kind, randomBytes(r))
			if e != api.OK {
				if !empty(v) {
					t.Fatalf("%+v, %d", v, e)
				}
				continue
			}
			read++
			s, e := value.Encode(b, kind, v)
			if w, f := value.Decode(b, kind, s); e != api.OK || f != api.OK || !alike(v, w) {
				t.Fatalf("%+v, %d, %d", v, e, f)
			}
		}
	}
	if read < 500 {
		t.Errorf("only %d were read", read)
	}
}

// randomBytes are now and then those of parts whose ids rise, as others are hardly ever read.
func randomBytes(r *rand.Rand) string {
	var s []byte
	if r.Intn(3) == 0 {
		for range r.Intn(12) {
			s = append(s, byte(r.Intn(256)))
		}
		return string(s)
	}
	var parts []api.Part
	for id := 1; id <= api.MaxId; id += 1 + r.Intn(6) {
		p := api.Part{Id: id, Kind: r.Intn(3)}
		if p.Kind == api.IsNumber {
			p.N = r.Intn(4) - 1
		}
		parts = append(parts, p)
	}
	out, _ := wire.Encode(parts[:r.Intn(min(4, len(parts)+1))])
	return out
}

// Whatever is handed in, each call ends and none panics.
func TestWildValues(t *testing.T) {
	r := rand.New(rand.NewSource(7))
	list := books(t)
	for range 20000 {
		b := list[r.Intn(len(list))]
		kind := b.Types[r.Intn(len(b.Types))].Name
		v := wild(r, 4)
		e := value.Typed(b, kind, v)
		s, f := value.Encode(b, kind, v)
		if e != f || e != api.OK && s != "" {
			t.Fatalf("%+v: %d, %q, %d", v, e, s, f)
		}
		if e != api.OK {
			continue
		}
		if w, e := value.Decode(b, kind, s); e != api.OK || !alike(v, w) {
			t.Fatalf("%+v: %+v, %d", v, w, e)
		}
	}
}

func wild(r *rand.Rand, deep int) api.Value {
	v := api.Value{Kind: r.Intn(3)}
	switch r.Intn(8) {
	case 0:
		v.Kind = []int{-1, 3, math.MaxInt, math.MinInt}[r.Intn(4)]
	case 1:
		v.N = []int{1, 2, math.MaxInt, math.MinInt}[r.Intn(4)]
	case 2:
		v.S = []string{"a", "\x80", strings.Repeat("x", 41)}[r.Intn(3)]
	}
	if deep > 0 {
		for range r.Intn(5) {
			v.Ids = append(v.Ids, r.Intn(11))
		}
		for range len(v.Ids) {
			v.L = append(v.L, wild(r, deep-1))
		}
	}
	return v
}
