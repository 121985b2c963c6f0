package wire_test

import (
	"encoding/binary"
	"math"
	"math/rand"
	"slices"
	"strings"
	"testing"

	"patternbook/api"
	"patternbook/wire"
)

func number(id, n int) api.Part { return api.Part{Id: id, Kind: api.IsNumber, N: n} }

func text(id int, s string) api.Part { return api.Part{Id: id, Kind: api.IsText, S: s} }

func message(id int, s string) api.Part { return api.Part{Id: id, Kind: api.IsMessage, S: s} }

func bytesOf(n int) string { return strings.Repeat("x", n) }

// goodParts are such as lie at the edges of what is good.
func goodParts() []api.Part {
	return []api.Part{
		number(1, 0), number(api.MaxId, 0), number(7, 1), number(7, -1),
		number(1, api.MaxNumber), number(1, -api.MaxNumber),
		text(1, ""), text(api.MaxId, "a"), text(5, "\x00\xff\x80 ü"), text(2, bytesOf(api.MaxBytes)),
		message(1, ""), message(api.MaxId, "a"), message(5, "\x00\xff\x80"), message(2, bytesOf(api.MaxBytes)),
	}
}

func badParts() []api.Part {
	return []api.Part{
		{}, number(0, 0), number(-1, 0), number(api.MaxId+1, 0), number(math.MinInt, 0), number(math.MaxInt, 0),
		text(0, ""), text(api.MaxId+1, ""), message(0, ""), message(api.MaxId+1, ""), text(-1, "a"), message(-1, "a"),
		number(1, api.MaxNumber+1), number(1, -api.MaxNumber-1), number(1, math.MinInt), number(1, math.MaxInt),
		{Id: 1, Kind: api.IsNumber, S: "a"}, {Id: 1, Kind: api.IsNumber, N: 1, S: "\x00"},
		{Id: 1, Kind: api.IsText, N: 1}, {Id: 1, Kind: api.IsText, N: -1, S: "a"},
		{Id: 1, Kind: api.IsMessage, N: 1}, {Id: 1, Kind: api.IsMessage, N: -1, S: "a"},
		text(1, bytesOf(api.MaxBytes+1)), message(1, bytesOf(api.MaxBytes+1)),
		{Id: 1, Kind: 3}, {Id: 1, Kind: 3, S: "a"}, {Id: 1, Kind: 4}, {Id: 1, Kind: -1}, {Id: 1, Kind: -4},
		{Id: 1, Kind: math.MaxInt}, {Id: 1, Kind: math.MinInt},
	}
}

// short tells a part without the whole of a long text.
func short(p api.Part) api.Part {
	p.S = p.S[:min(len(p.S), 10)]
	return p
}

// P2.1

func TestGood(t *testing.T) {
	for _, p := range goodParts() {
		if !wire.Good(p) {
			t.Errorf("%+v is not good", short(p))
		}
	}
	for _, p := range badParts() {
		if wire.Good(p) {
			t.Errorf("%+v is good", short(p))
		}
	}
	for id := 1; id <= api.MaxId; id++ {
		if !wire.Good(number(id, 3)) || !wire.Good(text(id, "a")) || !wire.Good(message(id, "a")) {
			t.Errorf("id %d is not good", id)
		}
	}
}

// P2.2

// pair: parts, and the bytes that they have.
type pair struct {
	name  string
	parts []api.Part
	bytes string
}

func pairs() []pair {
	return []pair{
		{"nothing", nil, ""},
		{"0", []api.Part{number(1, 0)}, "\x04\x00"},
		{"1", []api.Part{number(1, 1)}, "\x04\x02"},
		{"-1", []api.Part{number(1, -1)}, "\x04\x01"},
		{"-2", []api.Part{number(2, -2)}, "\x08\x03"},
		{"the greatest of one byte", []api.Part{number(1, 63)}, "\x04\x7e"},
		{"the least of one byte", []api.Part{number(1, -64)}, "\x04\x7f"},
		{"the first above of two", []api.Part{number(1, 64)}, "\x04\x80\x01"},
		{"the first below of two", []api.Part{number(1, -65)}, "\x04\x81\x01"},
		{"the greatest of two", []api.Part{number(1, 8191)}, "\x04\xfe\x7f"},
		{"the least of two", []api.Part{number(1, -8192)}, "\x04\xff\x7f"},
		{"the first above of three", []api.Part{number(1, 8192)}, "\x04\x80\x80\x01"},
		{"the first above of six", []api.Part{number(1, 1<<34)}, "\x04\x80\x80\x80\x80\x80\x01"},
		{"the greatest number", []api.Part{number(1, api.MaxNumber)}, "\x04\x80\x80\x80\x80\x80\x40"},
		{"the least number", []api.Part{number(1, -api.MaxNumber)}, "\x04\xff\xff\xff\xff\xff\x3f"},
		{"the greatest id", []api.Part{number(30, 0), text(30, "a"), message(30, "b")}, "\x78\x00\x79\x01a\x7a\x01b"},
		{"an empty text and message", []api.Part{text(3, ""), message(3, "")}, "\x0d\x00\x0e\x00"},
		{"any bytes", []api.Part{text(1, "\x00\x80\xff"), message(2, "\x04\x80")}, "\x05\x03\x00\x80\xff\x0a\x02\x04\x80"},
		{"a text of 127", []api.Part{text(1, bytesOf(127))}, "\x05\x7f" + bytesOf(127)},
		{"a text of 128", []api.Part{text(1, bytesOf(128))}, "\x05\x80\x01" + bytesOf(128)},
		{"a text of 300", []api.Part{message(1, bytesOf(300))}, "\x06\xac\x02" + bytesOf(300)},
		{"ids in any order, and twice", []api.Part{number(9, 0), number(2, 5), number(9, 0)}, "\x24\x00\x08\x0a\x24\x00"},
		{"just as many bytes as may be", []api.Part{text(1, bytesOf(19996))}, "\x05\x9c\x9c\x01" + bytesOf(19996)},
		{"as many, of two parts", []api.Part{text(1, bytesOf(19994)), number(1, -1)}, "\x05\x9a\x9c\x01" + bytesOf(19994) + "\x04\x01"},
	}
}

func TestEncode(t *testing.T) {
	for _, c := range pairs() {
		if s, e := wire.Encode(c.parts); s != c.bytes || e != api.OK {
			t.Errorf("%s: %.30q, %d", c.name, s, e)
		}
	}
}

func TestEncodeRefusesBadParts(t *testing.T) {
	for _, p := range badParts() {
		for _, l := range [][]api.Part{{p}, {number(1, 1), p}, {p, number(1, 1)}} {
			if s, e := wire.Encode(l); s != "" || e != api.ErrForm {
				t.Errorf("%+v: %.30q, %d", short(p), s, e)
			}
		}
	}
}

func TestEncodeTellsWhatIsWrongFirst(t *testing.T) {
	bad, big, most := number(0, 0), text(1, bytesOf(19997)), text(1, bytesOf(19996))
	for _, c := range []struct {
		name  string
		parts []api.Part
		want  api.Errno
	}{
		{"one byte more than may be", []api.Part{big}, api.ErrLong},
		{"the longest good part", []api.Part{message(1, bytesOf(api.MaxBytes))}, api.ErrLong},
		{"one part more than may be", []api.Part{most, number(1, 0)}, api.ErrLong},
		{"one byte more, of two parts", []api.Part{number(1, 64), text(1, bytesOf(19994))}, api.ErrLong},
		{"too long, then bad", []api.Part{big, bad}, api.ErrLong},
		{"bad, then too long", []api.Part{bad, big}, api.ErrForm},
		{"as many as may be, then bad", []api.Part{most, bad}, api.ErrForm},
		{"too long by a bad one", []api.Part{text(1, bytesOf(api.MaxBytes+1))}, api.ErrForm},
		{"many small ones", slices.Repeat([]api.Part{number(1, 0)}, api.MaxBytes/2+1), api.ErrLong},
	} {
		if s, e := wire.Encode(c.parts); s != "" || e != c.want {
			t.Errorf("%s: %.30q, %d", c.name, s, e)
		}
	}
}

func TestEncodeLeavesItsListAlone(t *testing.T) {
	room := []api.Part{number(1, -5), text(2, "a"), message(3, "b"), number(4, 9)}
	kept := slices.Clone(room)
	wire.Encode(room[:2])
	if !slices.Equal(room, kept) {
		t.Errorf("%+v", room)
	}
}

// P2.3

func TestDecode(t *testing.T) {
	for _, c := range pairs() {
		if l, e := wire.Decode(c.bytes); !slices.Equal(l, c.parts) || e != api.OK {
			t.Errorf("%s: %d parts, %d", c.name, len(l), e)
		}
	}
}

func TestDecodeRefuses(t *testing.T) {
	for _, c := range []struct{ name, bytes string }{
		{"a head alone", "\x04"},
		{"a head that does not end", "\x84"},
		{"a number that does not end", "\x04\x80"},
		{"a number that does not end, of six bytes", "\x04\x80\x80\x80\x80\x80\x80"},
		{"a text without its length", "\x05"},
		{"a length that does not end", "\x05\x80"},
		{"a text that is too short", "\x05\x01"},
		{"a message that is too short", "\x06\x03ab"},
		{"the greatest length", "\x05\xff\xff\xff\xff\xff\x7f"},
		{"the greatest length of a message", "\x06\xff\xff\xff\xff\xff\x7fa"},
		{"id 0", "\x00\x00"},
		{"id 0 of a text", "\x01\x01a"},
		{"id 0 of a message", "\x02\x00"},
		{"id 31", "\x7c\x00"},
		{"id 31 of a text", "\x7d\x00"},
		{"id 32", "\x80\x01\x00"},
		{"the greatest head", "\xfc\xff\xff\xff\xff\x7f\x00"},
		{"kind 3", "\x07\x00"},
		{"kind 3 with a byte", "\x07\x01a"},
		{"a head in two bytes that needs one", "\x84\x00\x00"},
		{"a 0 in two bytes", "\x04\x80\x00"},
		{"a 1 in two bytes", "\x04\x82\x00"},
		{"a 0 in six bytes", "\x04\x80\x80\x80\x80\x80\x00"},
		{"a length in two bytes that needs one", "\x05\x81\x00a"},
		{"a head of seven bytes", "\x84\x80\x80\x80\x80\x80\x00\x00"},
		{"a number of seven bytes", "\x04\x81\x80\x80\x80\x80\x80\x01"},
		{"a number of seven bytes, all set", "\x04\xff\xff\xff\xff\xff\xff\x7f"},
		{"a number of ten bytes that wraps to 0", "\x04\x80\x80\x80\x80\x80\x80\x80\x80\x80\x02"},
		{"a length of seven bytes", "\x05\x81\x80\x80\x80\x80\x80\x01a"},
		{"the first number below all", "\x04\x81\x80\x80\x80\x80\x40"},
		{"the first number above all", "\x04\x82\x80\x80\x80\x80\x40"},
		{"the greatest of six bytes", "\x04\xff\xff\xff\xff\xff\x7f"},
		{"a part more than bytes", "\x04\x02\x04"},
		{"good ones, then a bad one", "\x04\x02\x05\x01a\x00\x00"},
		{"a bad one, then a good one", "\x07\x00\x04\x02"},
		{"as many bytes as may be, of none", string(make([]byte, api.MaxBytes))},
	} {
		if l, e := wire.Decode(c.bytes); len(l) != 0 || e != api.ErrForm {
			t.Errorf("%s: %+v, %d", c.name, l, e)
		}
	}
}

func TestDecodeRefusesTooManyBytes(t *testing.T) {
	for _, s := range []string{
		string(make([]byte, api.MaxBytes+1)),
		"\x05\x9d\x9c\x01" + bytesOf(19997),
		strings.Repeat("\x04\x00", api.MaxBytes/2) + "\x04",
		strings.Repeat("\xff", 10*api.MaxBytes),
	} {
		if l, e := wire.Decode(s); len(l) != 0 || e != api.ErrLong {
			t.Errorf("%d bytes: %d parts, %d", len(s), len(l), e)
		}
	}
}

func TestDecodeOfAsManyPartsAsMayBe(t *testing.T) {
	l, e := wire.Decode(strings.Repeat("\x04\x00", api.MaxBytes/2))
	if want := slices.Repeat([]api.Part{number(1, 0)}, api.MaxBytes/2); !slices.Equal(l, want) || e != api.OK {
		t.Errorf("%d parts, %d", len(l), e)
	}
}

// Of texts of one to three bytes, those are told that a good part has, and no others.
func TestDecodeOfShortTexts(t *testing.T) {
	parts := shortParts()
	ask := func(s string) {
		p, is := parts[s]
		l, e := wire.Decode(s)
		if is && (e != api.OK || !slices.Equal(l, []api.Part{p})) || !is && (e != api.ErrForm || len(l) != 0) {
			t.Errorf("%q: %+v, %d", s, l, e)
		}
	}
	for _, a := range singles() {
		ask(a)
		for _, b := range singles() {
			ask(a + b)
			for _, c := range []string{"\x00", "\x01", "\x02", "\x04", "\x40", "\x7f", "\x80", "\xff"} {
				ask(a + b + c)
			}
		}
	}
}

// shortParts are the good parts of at most three bytes, by these.
func shortParts() map[string]api.Part {
	parts := map[string]api.Part{}
	for id := 1; id <= api.MaxId; id++ {
		for n := -8192; n < 8192; n++ {
			parts[plainly(number(id, n))] = number(id, n)
		}
		for _, s := range append(singles(), "") {
			parts[plainly(text(id, s))] = text(id, s)
			parts[plainly(message(id, s))] = message(id, s)
		}
	}
	return parts
}

func singles() []string {
	var l []string
	for n := range 256 {
		l = append(l, string([]byte{byte(n)}))
	}
	return l
}

// plainly is a part's bytes by the library's own numbers in sevens.
func plainly(p api.Part) string {
	out := binary.AppendUvarint(nil, uint64(4*p.Id+p.Kind))
	if p.Kind == api.IsNumber {
		return string(binary.AppendVarint(out, int64(p.N)))
	}
	return string(binary.AppendUvarint(out, uint64(len(p.S)))) + p.S
}

func randomPart(r *rand.Rand) api.Part {
	id := 1 + r.Intn(api.MaxId)
	switch r.Intn(3) {
	case 0:
		return number(id, (1-2*r.Intn(2))*(r.Intn(api.MaxNumber+1)>>r.Intn(41)))
	case 1:
		return text(id, bytesOf(r.Intn(200)))
	}
	return message(id, bytesOf(r.Intn(20)))
}

func TestEncodeAndDecodeOfRandomParts(t *testing.T) {
	r := rand.New(rand.NewSource(1))
	for range 20000 {
		var parts []api.Part
		var want strings.Builder
		for range r.Intn(6) {
			p := randomPart(r)
			parts = append(parts, p)
			want.WriteString(plainly(p))
		}
		s, e := wire.Encode(parts)
		if s != want.String() || e != api.OK {
			t.Fatalf("%+v: %q, %d", parts, s, e)
		}
		if l, e := wire.Decode(s); !slices.Equal(l, parts) || e != api.OK {
			t.Fatalf("%q: %+v, %d", s, l, e)
		}
	}
}

// Whatever bytes are read, they are the ones that are written of it.
func TestDecodeOfRandomBytes(t *testing.T) {
	r := rand.New(rand.NewSource(2))
	signs := []byte{0, 1, 2, 3, 4, 5, 6, 7, 8, 64, 120, 124, 127, 128, 129, 255}
	read := 0
	for range 300000 {
		b := make([]byte, r.Intn(12))
		for i := range b {
			b[i] = signs[r.Intn(len(signs))]
		}
		l, e := wire.Decode(string(b))
		if e != api.OK {
			if e != api.ErrForm || len(l) != 0 {
				t.Fatalf("%q: %+v, %d", b, l, e)
			}
			continue
		}
		read++
		if s, e := wire.Encode(l); s != string(b) || e != api.OK {
			t.Fatalf("%q: %+v, %q, %d", b, l, s, e)
		}
	}
	if read < 1000 {
		t.Errorf("only %d were read", read)
	}
}
