package compat_test

import (
	"math"
	"math/rand"
	"testing"

	"patternbook/api"
	"patternbook/compat"
	"patternbook/value"
)

// P4.4

type projectCase struct {
	what, w, r string
	v, want    api.Value
}

func checkProject(t *testing.T, cases []projectCase) {
	t.Helper()
	for _, c := range cases {
		w, r := parse(t, c.w), parse(t, c.r)
		v, e := compat.Project(w, r, "a", c.v)
		if e != api.OK || !alike(v, c.want) {
			t.Errorf("%s: %+v, %d", c.what, v, e)
		}
		if e := value.Typed(r, "a", v); e != api.OK {
			t.Errorf("%s: the reader does not have %+v: %d", c.what, v, e)
		}
		if !ownMemory(v, c.v) {
			t.Errorf("%s: %+v shares lists", c.what, v)
		}
	}
}

func TestProjectKeepsWhatBothKnow(t *testing.T) {
	const all = "message a{1 one bool p;2 maybe int q;3 many text r;4 one e s;5 maybe a u;}enum e{2 x;5 y;}"
	inner := message(in{1, number(0)}, in{4, number(2)})
	v := message(in{1, number(1)}, in{2, number(-api.MaxNumber)}, in{3, text("b")}, in{3, text("")}, in{3, text("a")}, in{4, number(5)}, in{5, inner})
	checkProject(t, []projectCase{
		{"a book as itself", all, all, v, v},
		{"the least as itself", all, all, inner, inner},
		{"nothing as nothing", "message a{}", "message a{}", message(), message()},
		{"what the reader does not know", all, "message a{3 many text r;}", v, message(in{3, text("b")}, in{3, text("")}, in{3, text("a")})},
		{"all that the reader does not know", all, "message a{6 maybe int p;}", v, message()},
		{"messages that the reader does not know", all, "message a{2 maybe int q;}", v, message(in{2, number(-api.MaxNumber)})},
		{"other names, wider ones", all, "message a{1 maybe int z;4 many f y;5 many a x;}enum f{1 g;2 h;5 i;}", v,
			message(in{1, number(1)}, in{4, number(5)}, in{5, message(in{1, number(0)}, in{4, number(2)})})},
		{"one as many, a truth as an item", "message a{9 one bool x;}", "message a{9 many e x;}enum e{0 y;1 z;}", message(in{9, number(1)}), message(in{9, number(1)})},
		{"an item as a truth", "message a{9 one e x;}enum e{1 z;}", "message a{9 one bool x;}", message(in{9, number(1)}), message(in{9, number(1)})},
	})
}

func TestProjectPutsTheLeastWhereItLacks(t *testing.T) {
	const was = "message a{2 maybe int x;}"
	v, none := message(in{2, number(7)}), message()
	checkProject(t, []projectCase{
		{"ahead, behind and of each kind", was, "message a{1 one bool p;2 maybe int x;3 one int q;4 one text r;5 one e s;}enum e{-3 u;0 v;}", v,
			message(in{1, number(0)}, in{2, number(7)}, in{3, number(0)}, in{4, text("")}, in{5, number(-3)})},
		{"a message", was, "message a{1 one b p;}message b{3 one c x;}message c{4 one e x;5 maybe int y;}enum e{8 u;9 v;}", v,
			message(in{1, message(in{3, message(in{4, number(8)})})})},
		{"two messages", was, "message a{1 one b p;3 one b q;}message b{3 one int x;}", v, message(in{1, message(in{3, number(0)})}, in{3, message(in{3, number(0)})})},
		{"what may lack", was, "message a{1 maybe int p;2 maybe int x;3 many text q;4 maybe a r;}", none, none},
		{"what both know, and lacks", was, "message a{2 one int x;}", none, message(in{2, number(0)})},
		{"what both know, and is there", was, "message a{2 one int x;}", v, v},
		{"the reader's least, not the writer's", "message a{1 maybe e x;}enum e{4 u;5 v;}", "message a{1 one e x;}enum e{3 t;4 u;5 v;}", none, message(in{1, number(3)})},
		{"none of many", "message a{1 many int x;}", "message a{1 many int x;}", none, none},
	})
}

func TestProjectWithinMessages(t *testing.T) {
	checkProject(t, []projectCase{
		{"each by its own pair of types", "message a{1 maybe b x;2 maybe b y;}message b{1 maybe int p;2 maybe text q;}",
			"message a{1 maybe c x;2 maybe d y;}message c{1 one int p;}message d{2 many text q;3 one bool r;}",
			message(in{1, message(in{2, text("u")})}, in{2, message(in{1, number(5)}, in{2, text("v")})}),
			message(in{1, message(in{1, number(0)})}, in{2, message(in{2, text("v")}, in{3, number(0)})})},
		{"in its order", "message a{1 many b x;}message b{1 maybe int p;}", "message a{1 many b x;}message b{1 maybe int p;2 one int q;}",
			message(in{1, message(in{1, number(9)})}, in{1, message()}, in{1, message(in{1, number(3)})}),
			message(in{1, message(in{1, number(9)}, in{2, number(0)})}, in{1, message(in{2, number(0)})}, in{1, message(in{1, number(3)}, in{2, number(0)})})},
		{"in itself", "message a{1 maybe a x;}", "message a{1 maybe a x;2 one int y;}",
			nested(3, 1, message()), message(in{1, message(in{1, message(in{1, message(in{2, number(0)})}, in{2, number(0)})}, in{2, number(0)})}, in{2, number(0)})},
		// A reader that goes round in two where the writer does in three reads the writer's third as its first.
		{"round and round", roundOfThree, "message a{1 maybe b x;2 one int n;}message b{1 maybe a x;}",
			message(in{1, message(in{1, message(in{2, number(4)})})}), message(in{1, message(in{1, message(in{2, number(4)})})}, in{2, number(0)})},
	})
}

func TestProjectRefusesWhatIsNotTyped(t *testing.T) {
	const was = "message a{1 one int x;2 maybe bool y;3 many a z;4 maybe text t;}"
	one := in{1, number(0)}
	for _, later := range []string{was, "message a{}", "message a{1 one text x;2 one text y;}"} {
		w, r := parse(t, was), parse(t, later)
		for _, c := range []struct {
			what string
			v    api.Value
			want api.Errno
		}{
			{"no message", number(1), api.ErrWire},
			{"of no kind", api.Value{Kind: 7}, api.ErrWire},
			{"more ids than values", api.Value{Kind: api.IsMessage, Ids: []int{1}}, api.ErrForm},
			{"more values than ids", api.Value{Kind: api.IsMessage, L: make([]api.Value, 1)}, api.ErrForm},
			{"no such field", message(one, in{5, number(0)}), api.ErrNone},
			{"ids fall", message(in{2, number(0)}, one), api.ErrForm},
			{"one twice", message(one, one), api.ErrTwice},
			{"of another kind", message(in{1, text("")}), api.ErrWire},
			{"no truth", message(one, in{2, number(2)}), api.ErrItem},
			{"no number", message(in{1, number(math.MaxInt)}), api.ErrRange},
			{"no text", message(one, in{4, text("\x80")}), api.ErrForm},
			{"one lacks", message(in{2, number(0)}), api.ErrNone},
			{"one lacks within", message(one, in{3, message()}), api.ErrNone},
			{"too many", times(api.MaxCount, 1, number(0)), api.ErrLong},
			{"too deep", nested(api.MaxDepth, 3, number(0)), api.ErrLong},
		} {
			if v, e := compat.Project(w, r, "a", c.v); e != c.want || !empty(v) {
				t.Errorf("%s, %s: %+v, %d, not %d", later, c.what, v, e, c.want)
			}
		}
	}
}

func TestProjectOfWhatHoldsItself(t *testing.T) {
	b := parse(t, "message a{1 many a x;}")
	for _, wide := range []int{1, 2} {
		l, ids := make([]api.Value, wide), make([]int, wide)
		for i := range l {
			ids[i] = 1
			l[i] = api.Value{Kind: api.IsMessage, Ids: ids, L: l}
		}
		if v, e := compat.Project(b, b, "a", l[0]); e != api.ErrLong || !empty(v) {
			t.Errorf("%d in each: %+v, %d", wide, v, e)
		}
	}
}

// Whether this value could be read is not asked: it is enough that one could not.
func TestProjectBreaks(t *testing.T) {
	for _, c := range []struct {
		what, w, r string
		v          api.Value
	}{
		{"of another kind, and it is there", "message a{1 one int x;}", "message a{1 one text x;}", message(in{1, number(1)})},
		{"of another kind, and it lacks", "message a{1 maybe int x;}", "message a{1 maybe text x;}", message()},
		{"many, and it is one", "message a{1 many int x;}", "message a{1 one int x;}", message(in{1, number(1)})},
		{"an item lacks, and it is another", "message a{1 one e x;}enum e{0 p;1 q;}", "message a{1 one e x;}enum e{0 p;}", message(in{1, number(0)})},
		{"within, and there is nothing within", "message a{1 maybe b x;}message b{1 one int x;}", "message a{1 maybe b x;}message b{1 one text x;}", message()},
		{"ahead of being too long", "message a{1 many a x;2 maybe int y;}", "message a{1 many a x;2 maybe bool y;3 one int z;}", times(api.MaxCount-1, 1, message())},
	} {
		if v, e := compat.Project(parse(t, c.w), parse(t, c.r), "a", c.v); e != api.ErrBreaks || !empty(v) {
			t.Errorf("%s: %+v, %d", c.what, v, e)
		}
	}
}

func TestProjectTooLong(t *testing.T) {
	const was = "message a{1 many a x;}"
	const later, larger = "message a{1 many a x;2 one int y;}", "message a{1 many a x;2 one b y;}message b{1 one int z;}"
	half := api.MaxCount / 2
	for _, c := range []struct {
		what, r string
		v       api.Value
		want    api.Errno
	}{
		{"as deep as may be", was, nested(api.MaxDepth-1, 1, message()), api.OK},
		{"as deep as may be by its least", later, nested(api.MaxDepth-2, 1, message()), api.OK},
		{"deeper by its least", later, nested(api.MaxDepth-1, 1, message()), api.ErrLong},
		{"as deep as may be by a least within", larger, nested(api.MaxDepth-3, 1, message()), api.OK},
		{"deeper by a least within", larger, nested(api.MaxDepth-2, 1, message()), api.ErrLong},
		{"less deep for a reader that knows less", "message a{2 one int y;}", nested(api.MaxDepth-1, 1, message()), api.OK},
		{"as many as may be", was, times(api.MaxCount-1, 1, message()), api.OK},
		{"as many as may be by leasts", later, times(half-1, 1, message()), api.OK},
		{"more by leasts", later, times(half, 1, message()), api.ErrLong},
		{"far more by leasts", "message a{1 many a x;2 one b y;3 one b z;}message b{1 one int p;2 one int q;3 one int r;}", times(api.MaxCount-1, 1, message()), api.ErrLong},
		{"fewer for a reader that knows less", "message a{2 one int y;}", times(api.MaxCount-1, 1, message()), api.OK},
	} {
		v, e := compat.Project(parse(t, was), parse(t, c.r), "a", c.v)
		if e != c.want || e != api.OK && !empty(v) {
			t.Errorf("%s: %+v, %d", c.what, v, e)
		}
	}
}

// Lists without elements may have spare room, and what is in it is the caller's.
func TestProjectIsOfItsOwnMemory(t *testing.T) {
	b := parse(t, "message a{1 one int x;2 maybe text y;3 many a z;}")
	spare := message(in{9, number(9)}, in{9, number(9)}, in{9, number(9)})
	leaf := api.Value{N: 4, Ids: spare.Ids[:0], L: spare.L[:0]}
	inner := api.Value{Kind: api.IsMessage, Ids: append(make([]int, 0, 8), 1), L: append(make([]api.Value, 0, 8), leaf)}
	v := message(in{1, leaf}, in{2, text("t")}, in{3, inner}, in{3, inner})
	out, e := compat.Project(b, b, "a", v)
	if e != api.OK || !alike(out, v) || !ownMemory(out, v) {
		t.Errorf("%+v, %d", out, e)
	}
	if !alike(spare, message(in{9, number(9)}, in{9, number(9)}, in{9, number(9)})) || !empty(whole(inner.L)[1]) {
		t.Errorf("spare room was changed: %+v, %+v", spare, whole(inner.L))
	}
}

// checkProjects holds Project of some values against what the reader reads of their bytes.
func checkProjects(t *testing.T, rnd *rand.Rand, w, r api.Book) {
	t.Helper()
	flaws, _ := compat.Flaws(w, r, "a")
	for range 5 {
		v := anyValue(rnd, w, "a", 3)
		s, e := value.Encode(w, "a", v)
		if e != api.OK {
			continue
		}
		got, e := compat.Project(w, r, "a", v)
		if len(flaws) > 0 {
			if e != api.ErrBreaks || !empty(got) {
				t.Errorf("%+v, but %+v, %d", flaws, got, e)
			}
			continue
		}
		want, f := value.Decode(r, "a", s)
		if e != f || !alike(got, want) || !ownMemory(got, v) {
			t.Errorf("%+v\n%+v\n%+v is %+v, %d, and is read as %+v, %d", w, r, v, got, e, want, f)
		}
	}
}
