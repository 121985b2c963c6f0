package compat_test

import (
	"testing"

	"patternbook/api"
	"patternbook/compat"
	"patternbook/value"
)

// P4.3

// checkWitness holds a witness against what it must be, whichever it is.
func checkWitness(t *testing.T, w, r api.Book, name string) {
	t.Helper()
	flaws, e := compat.Flaws(w, r, name)
	if e != api.OK {
		t.Fatal(e)
	}
	v, e := compat.Witness(w, r, name)
	if len(flaws) == 0 {
		if e != api.ErrNone || !empty(v) {
			t.Errorf("no flaws, but: %+v, %d", v, e)
		}
		return
	}
	if e != api.OK {
		t.Errorf("%+v, but no witness: %d", flaws, e)
		return
	}
	if e := value.Typed(w, name, v); e != api.OK {
		t.Errorf("the writer does not write %+v: %d", v, e)
	}
	s, e := value.Encode(w, name, v)
	if e != api.OK {
		t.Errorf("the writer does not encode %+v: %d", v, e)
	}
	x, e := value.Decode(r, name, s)
	if e != api.ErrWire && e != api.ErrTwice && e != api.ErrItem {
		t.Errorf("%+v is read as %+v, %d", v, x, e)
	}
	if !ownMemory(v) {
		t.Errorf("%+v shares lists", v)
	}
}

// Of a single field it is known which error the reader must find.
func TestWitnessByItsError(t *testing.T) {
	for _, c := range []struct {
		what, w, r string
		want       api.Errno
	}{
		{"a text as a number", "message a{1 one text x;}", "message a{1 one int x;}", api.ErrWire},
		{"a number as a text, that may lack", "message a{1 maybe int x;}", "message a{1 one text x;}", api.ErrWire},
		{"a message as a text", "message a{1 many b x;}message b{1 one int y;}", "message a{1 many text x;}", api.ErrWire},
		{"a text as a message", "message a{1 one text x;}", "message a{1 maybe a x;}", api.ErrWire},
		{"many as one", "message a{1 many int x;}", "message a{1 one int x;}", api.ErrTwice},
		{"many as maybe", "message a{1 many text x;}", "message a{1 maybe text x;}", api.ErrTwice},
		{"many messages as one", "message a{1 many b x;}message b{1 one text y;2 one int z;}", "message a{1 one b x;}message b{}", api.ErrTwice},
		{"many items as one", "message a{1 many e x;}enum e{7 y;}", "message a{1 one e x;}enum e{7 y;}", api.ErrTwice},
		{"any number as a truth", "message a{1 one int x;}", "message a{1 one bool x;}", api.ErrItem},
		{"any number as an item", "message a{1 maybe int x;}", "message a{1 one e x;}enum e{0 p;1 q;2 r;3 s;4 t;6 u;}", api.ErrItem},
		{"any number as items far away", "message a{1 many int x;}", "message a{1 many e x;}enum e{-9 p;99 q;}", api.ErrItem},
		{"a truth as 0", "message a{1 one bool x;}", "message a{1 one e x;}enum e{0 p;}", api.ErrItem},
		{"a truth as 1", "message a{1 one bool x;}", "message a{1 one e x;}enum e{1 p;}", api.ErrItem},
		{"an item as a truth", "message a{1 one e x;}enum e{0 p;1 q;1099511627776 r;}", "message a{1 one bool x;}", api.ErrItem},
		{"an item less", "message a{1 one e x;}enum e{-5 o;0 p;3 q;}", "message a{1 one e x;}enum e{-5 o;0 p;}", api.ErrItem},
		{"an item of more", "message a{1 one e x;}enum e{-5 o;0 p;3 q;}", "message a{1 one e x;}enum e{-4 a;0 b;3 c;5 d;}", api.ErrItem},
		{"within", "message a{1 maybe b x;}message b{3 maybe c y;}message c{4 maybe bool z;}", "message a{1 maybe b x;}message b{3 maybe c y;}message c{4 maybe text z;}", api.ErrWire},
		{"far within", roundOfThree, roundOfFour, api.ErrWire},
	} {
		w, r := parse(t, c.w), parse(t, c.r)
		checkWitness(t, w, r, "a")
		v, _ := compat.Witness(w, r, "a")
		s, _ := value.Encode(w, "a", v)
		if _, e := value.Decode(r, "a", s); e != c.want {
			t.Errorf("%s: %+v: %d, not %d", c.what, v, e, c.want)
		}
	}
}

// What is always there must be there, ahead of the flaw and behind it, on each step of the way.
func TestWitnessHasWhatIsAlwaysThere(t *testing.T) {
	const (
		w = "message a{1 one int p;3 maybe b x;5 one e q;}enum e{4 u;9 v;}message b{1 one c p;2 maybe int n;3 one text q;}message c{8 one bool y;9 one int z;}"
		r = "message a{1 one int p;3 maybe b x;5 one e q;}enum e{4 u;9 v;}message b{1 one c p;2 maybe bool n;3 one text q;}message c{8 one bool y;9 one int z;}"
	)
	checkWitness(t, parse(t, w), parse(t, r), "a")
	v, e := compat.Witness(parse(t, w), parse(t, r), "a")
	if e != api.OK || len(v.Ids) != 3 || len(v.L[1].Ids) != 3 {
		t.Errorf("%+v, %d", v, e)
	}
}

// The field that leads on is One itself: it stands there once, and not as its least.
func TestWitnessThroughWhatIsAlwaysThere(t *testing.T) {
	w := parse(t, "message a{1 one b x;}message b{1 one c x;}message c{1 one d x;}message d{1 maybe int x;}")
	r := parse(t, "message a{1 one b x;}message b{1 one c x;}message c{1 one d x;}message d{1 maybe text x;}")
	checkWitness(t, w, r, "a")
	if v, _ := compat.Witness(w, r, "a"); !alike(v, nested(3, 1, message(in{1, number(0)}))) {
		t.Errorf("%+v", v)
	}
}

// The way is as long, and what stands beside it as large, as may be: it still is no larger than what may be written.
func TestWitnessFarWithinLargeOnes(t *testing.T) {
	const large = "2 one int p;3 one int q;4 one int r;"
	w := "message a{1 maybe b x;" + large + "5 one d s;}message b{1 maybe c x;" + large + "5 one d s;}message c{1 maybe a x;" + large + "6 one int y;}message d{" + large + "}"
	r := "message a{1 maybe b x;6 one int y;}message b{1 maybe c x;6 one int y;}message c{1 maybe d x;6 one int y;}message d{1 maybe a x;6 one bool y;}"
	checkFlaws(t, []flawsCase{{"far and large", w, r, []api.Flaw{flaw("c", 6, api.NoItem)}}})
	v, _ := compat.Witness(parse(t, w), parse(t, r), "a")
	if depth, count := value.Size(v); depth != 13 || count < 60 {
		t.Errorf("%d, %d", depth, count)
	}
}

func TestWitnessWhereThereIsNone(t *testing.T) {
	for _, c := range [][2]string{
		{"message a{}", "message a{1 one int x;}"},
		{"message a{1 one bool x;2 maybe a y;}", "message a{1 many int x;2 many a y;}"},
		{"message a{}message b{1 one int x;}", "message a{}message b{1 one text x;}"},
	} {
		if v, e := compat.Witness(parse(t, c[0]), parse(t, c[1]), "a"); e != api.ErrNone || !empty(v) {
			t.Errorf("%s: %+v, %d", c[0], v, e)
		}
	}
}
