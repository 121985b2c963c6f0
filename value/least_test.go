package value_test

import (
	"math"
	"testing"

	"patternbook/api"
	"patternbook/book"
	"patternbook/value"
)

// P3.4

const leasts = "message a{3 one bool b;5 one int i;7 one text t;9 one e k;30 one o m;}" +
	"message o{1 maybe int x;2 one e k;4 many text y;6 one p p;8 maybe a z;}" +
	"message p{2 maybe bool q;}enum e{-9 low;0 mid;3 high;}"

func leastP() api.Value { return message() }

func leastO() api.Value { return message(in{2, number(-9)}, in{6, leastP()}) }

func leastA() api.Value {
	return message(in{3, number(0)}, in{5, number(0)}, in{7, text("")}, in{9, number(-9)}, in{30, leastO()})
}

func TestLeast(t *testing.T) {
	b := parse(t, leasts)
	for name, want := range map[string]api.Value{"a": leastA(), "o": leastO(), "p": leastP()} {
		v, e := value.Least(b, name)
		if e != api.OK || !alike(v, want) {
			t.Errorf("%s: %+v, %d", name, v, e)
		}
		if e := value.Typed(b, name, v); e != api.OK {
			t.Errorf("%s: Typed: %d", name, e)
		}
		if _, count := value.Size(v); count != book.Least(b, name) {
			t.Errorf("%s: %d values", name, count)
		}
	}
}

func TestLeastOfAnEnum(t *testing.T) {
	for text, want := range map[string]int{"-3 a;": -3, "7 a;9 b;": 7, "9 a;7 b;": 7, "-1 z;0 a;1 b;": -1, "1099511627776 a;": api.MaxNumber} {
		b := parse(t, "message m{1 one e e;}enum e{"+text+"}")
		if v, e := value.Least(b, "m"); e != api.OK || !alike(v, message(in{1, number(want)})) {
			t.Errorf("%s: %+v, %d", text, v, e)
		}
	}
}

// As many values as a least one may have, and as deep as it can be.
func TestGreatestLeast(t *testing.T) {
	b := parse(t, "message a{1 one b x;2 one int y;3 one int z;}message b{1 one c x;2 one int y;3 one int z;}"+
		"message c{1 one d x;2 one int y;3 one int z;}message d{1 one int x;2 one int y;}")
	v, e := value.Least(b, "a")
	if e != api.OK {
		t.Fatal(e)
	}
	if depth, count := value.Size(v); depth != 5 || count != api.MaxLeast {
		t.Errorf("%d, %d", depth, count)
	}
	if e := value.Typed(b, "a", v); e != api.OK {
		t.Errorf("Typed: %d", e)
	}
}

func TestLeastOf(t *testing.T) {
	b := parse(t, leasts)
	for _, c := range []struct {
		name string
		id   int
		want api.Value
	}{
		{"a", 3, number(0)}, {"a", 5, number(0)}, {"a", 7, text("")}, {"a", 9, number(-9)}, {"a", 30, leastO()},
		{"o", 1, number(0)}, {"o", 2, number(-9)}, {"o", 4, text("")}, {"o", 6, leastP()}, {"o", 8, leastA()},
		{"p", 2, number(0)},
	} {
		if v, e := value.LeastOf(b, c.name, c.id); e != api.OK || !alike(v, c.want) {
			t.Errorf("%s, %d: %+v, %d", c.name, c.id, v, e)
		}
	}
}

func TestLeastOfOfNoField(t *testing.T) {
	b := parse(t, leasts)
	for name, ids := range map[string][]int{
		"a": {0, 1, 2, 4, 29, 31, -3, math.MaxInt, math.MinInt}, "p": {1, 3}, "e": {-9, 0, 1, 3}, "x": {0, 1}, "": {0, 1},
	} {
		for _, id := range ids {
			if v, e := value.LeastOf(b, name, id); !empty(v) || e != api.ErrNone {
				t.Errorf("%q, %d: %+v, %d", name, id, v, e)
			}
		}
	}
	gone := parse(t, "message m{1 one int a;gone 2;}")
	if v, e := value.LeastOf(gone, "m", 2); !empty(v) || e != api.ErrNone {
		t.Errorf("gone: %+v, %d", v, e)
	}
}

// An answer is the caller's: what is done to it changes neither the book nor another answer, nor another place of the same.
func TestLeastIsNew(t *testing.T) {
	b := parse(t, "message m{1 one o a;2 one o b;}message o{1 one int i;}")
	v, _ := value.Least(b, "m")
	v.L[0].L[0].N, v.L[0].Ids[0] = 77, 77
	if !alike(v.L[1], message(in{1, number(0)})) {
		t.Errorf("another place: %+v", v.L[1])
	}
	again, e := value.Least(b, "m")
	if o := message(in{1, number(0)}); e != api.OK || !alike(again, message(in{1, o}, in{2, o})) {
		t.Errorf("another answer: %+v, %d", again, e)
	}
}
