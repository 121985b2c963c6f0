package compat_test

import (
	"fmt"
	"math/rand"
	"reflect"
	"slices"
	"sort"
	"testing"

	"patternbook/api"
	"patternbook/book"
	"patternbook/compat"
	"patternbook/value"
)

// flaw is shorter to write than its struct.
func flaw(name string, id, why int) api.Flaw { return api.Flaw{Type: name, Id: id, Why: why} }

type flawsCase struct {
	what, w, r string
	flaws      []api.Flaw
}

func checkFlaws(t *testing.T, cases []flawsCase) {
	t.Helper()
	for _, c := range cases {
		w, r := parse(t, c.w), parse(t, c.r)
		if l, e := compat.Flaws(w, r, "a"); e != api.OK || !slices.Equal(l, c.flaws) {
			t.Errorf("%s: %+v, %d", c.what, l, e)
		}
		checkWitness(t, w, r, "a")
	}
}

// P4.1

// Each kind of field against each: 0 where the one is read as the other.
func TestFlawsOfKinds(t *testing.T) {
	const types = "message m{}enum far{0 x;3 y;}enum two{0 x;1 y;}"
	kinds := []string{"bool", "int", "text", "two", "far", "m"}
	const k, n = api.OtherKind, api.NoItem
	whys := [][]int{
		// bool, int, text, two, far, m
		{0, 0, k, 0, n, k}, // bool
		{n, 0, k, n, n, k}, // int
		{k, k, 0, k, k, k}, // text
		{0, 0, k, 0, n, k}, // two
		{n, 0, k, n, 0, k}, // far
		{k, k, k, k, k, 0}, // m
	}
	var cases []flawsCase
	for i, w := range kinds {
		for j, r := range kinds {
			for _, rule := range []string{"one", "maybe", "many"} {
				c := flawsCase{what: rule + " " + w + " as " + r}
				c.w = types + "message a{7 " + rule + " " + w + " x;}"
				c.r = types + "message a{7 " + rule + " " + r + " x;}"
				if whys[i][j] != 0 {
					c.flaws = []api.Flaw{flaw("a", 7, whys[i][j])}
				}
				cases = append(cases, c)
			}
		}
	}
	checkFlaws(t, cases)
}

// Each rule against each: many are not read where one may be, whatever else is wrong.
func TestFlawsOfRules(t *testing.T) {
	rules := []string{"one", "maybe", "many"}
	var cases []flawsCase
	for i, w := range rules {
		for j, r := range rules {
			for _, kinds := range []struct {
				w, r string
				why  int
			}{{"int", "int", 0}, {"bool", "int", 0}, {"text", "text", 0}, {"m", "m", 0}, {"m", "n", 0}, {"int", "text", api.OtherKind}, {"text", "m", api.OtherKind}, {"m", "bool", api.OtherKind}, {"int", "bool", api.NoItem}} {
				c := flawsCase{what: w + " " + kinds.w + " as " + r + " " + kinds.r}
				c.w = "message m{}message n{}message a{7 " + w + " " + kinds.w + " x;}"
				c.r = "message m{}message n{}message a{7 " + r + " " + kinds.r + " x;}"
				for _, why := range []int{api.OtherKind, api.NotMany, api.NoItem} {
					if why == kinds.why || why == api.NotMany && i == 2 && j != 2 {
						c.flaws = append(c.flaws, flaw("a", 7, why))
					}
				}
				cases = append(cases, c)
			}
		}
	}
	checkFlaws(t, cases)
}

func TestFlawsOfNumbers(t *testing.T) {
	field := func(kind string) string { return "message a{2 one " + kind + " x;}" }
	enum := func(items string) string { return field("e") + "enum e{" + items + "}" }
	noItem := []api.Flaw{flaw("a", 2, api.NoItem)}
	top, low := fmt.Sprint(api.MaxNumber), fmt.Sprint(-api.MaxNumber)
	checkFlaws(t, []flawsCase{
		{"a truth as an enum of both", field("bool"), enum("0 x;1 y;"), nil},
		{"a truth as an enum of more", field("bool"), enum("-1 v;0 x;1 y;2 z;"), nil},
		{"a truth as an enum without 0", field("bool"), enum("1 y;2 z;"), noItem},
		{"a truth as an enum without 1", field("bool"), enum("-1 v;0 x;2 z;"), noItem},
		{"an enum of 0 as a truth", enum("0 x;"), field("bool"), nil},
		{"an enum of 1 as a truth", enum("1 x;"), field("bool"), nil},
		{"an enum of 2 as a truth", enum("2 x;"), field("bool"), noItem},
		{"an enum below 0 as a truth", enum("-1 v;0 x;1 y;"), field("bool"), noItem},
		{"an enum of 0 to 2 as a truth", enum("0 x;1 y;2 z;"), field("bool"), noItem},
		{"an enum as any number", enum(low + " v;0 x;" + top + " y;"), field("int"), nil},
		{"any number as a truth", field("int"), field("bool"), noItem},
		{"any number as 0 to 5", field("int"), enum("0 p;1 q;2 r;3 s;4 t;5 u;"), noItem},
		{"any number as 1 to 6", field("int"), enum("1 q;2 r;3 s;4 t;5 u;6 v;"), noItem},
		{"any number as one", field("int"), enum("0 x;"), noItem},
		{"an enum as itself", enum(low + " v;0 x;" + top + " y;"), enum(low + " v;0 x;" + top + " y;"), nil},
		{"an enum as one of more", enum("1 x;3 y;"), enum("0 u;1 v;2 w;3 z;4 p;"), nil},
		{"the first item lacks", enum("1 x;3 y;5 z;"), enum("3 y;5 z;"), noItem},
		{"the one between lacks", enum("1 x;3 y;5 z;"), enum("1 x;5 z;"), noItem},
		{"the last item lacks", enum("1 x;3 y;5 z;"), enum("1 x;3 y;"), noItem},
		{"the sign is another", enum("3 x;"), enum("-3 x;"), noItem},
		{"several items lack", enum("0 p;1 q;2 r;3 s;4 t;5 u;"), enum("7 x;"), noItem},
	})
}

func TestFlawsDoNotAskForNames(t *testing.T) {
	checkFlaws(t, []flawsCase{
		{"other names", "message a{1 one e x;2 maybe b y;3 many int z;}enum e{0 p;1 q;}message b{1 one int i;}",
			"message a{1 one f z;2 maybe c x;3 many int y;}enum f{0 q;1 p;}message c{1 one int j;}", nil},
		{"gone ids", "message a{1 one int x;gone 2 3;}", "message a{2 one text y;gone 1 4;}", nil},
		{"one name, other ids", "message a{1 one int x;}", "message a{2 one text x;}", nil},
	})
}

// P4.2

func TestFlawsOfFieldsThatBothHave(t *testing.T) {
	checkFlaws(t, []flawsCase{
		{"nothing against nothing", "message a{}", "message a{}", nil},
		{"fields that the reader has not", "message a{1 one int x;2 many text y;}", "message a{}", nil},
		{"fields that the writer has not", "message a{}", "message a{1 one int x;2 many text y;}", nil},
		{"some that both have", "message a{1 one int x;2 one text y;4 many bool z;}", "message a{2 one int y;3 many text v;4 one text z;}",
			[]api.Flaw{flaw("a", 2, api.OtherKind), flaw("a", 4, api.OtherKind), flaw("a", 4, api.NotMany)}},
		{"the greatest ids", "message a{1 one int x;29 many int y;30 one int z;}", "message a{1 one text x;29 one int y;30 one bool z;}",
			[]api.Flaw{flaw("a", 1, api.OtherKind), flaw("a", 29, api.NotMany), flaw("a", 30, api.NoItem)}},
	})
}

func TestFlawsOfWhatFieldsLeadTo(t *testing.T) {
	checkFlaws(t, []flawsCase{
		{"one within", "message a{1 one b x;}message b{2 one int y;}", "message a{1 one b x;}message b{2 one text y;}", []api.Flaw{flaw("b", 2, api.OtherKind)}},
		{"by the writer's name", "message a{1 one d x;}message d{2 one int y;}", "message a{1 one b x;}message b{2 one text y;}", []api.Flaw{flaw("d", 2, api.OtherKind)}},
		{"three within", "message a{1 one b x;}message b{1 maybe c x;}message c{1 many d x;}message d{1 one int x;}",
			"message a{1 one b x;}message b{1 maybe c x;}message c{1 many d x;}message d{1 one text x;}", []api.Flaw{flaw("d", 1, api.OtherKind)}},
		{"in itself", "message a{1 maybe a x;2 one int y;}", "message a{1 maybe a x;2 one bool y;}", []api.Flaw{flaw("a", 2, api.NoItem)}},
		{"in itself, of two", "message a{1 maybe a x;2 one int y;}", "message a{1 maybe b x;2 one int y;}message b{1 maybe a x;2 one bool y;}", []api.Flaw{flaw("a", 2, api.NoItem)}},
		{"behind a flaw", "message a{1 many b x;}message b{2 one int y;}", "message a{1 one b x;}message b{2 one text y;}",
			[]api.Flaw{flaw("a", 1, api.NotMany), flaw("b", 2, api.OtherKind)}},
		{"not where the reader has no field", "message a{1 one b x;}message b{2 one int y;}", "message a{3 one b x;}message b{2 one text y;}", nil},
		{"not where the writer has no field", "message a{}message b{2 one int y;}", "message a{3 one b x;}message b{2 one text y;}", nil},
		{"not where the reader's is a text", "message a{1 one b x;}message b{2 one int y;}", "message a{1 one text x;}message b{2 one text y;}", []api.Flaw{flaw("a", 1, api.OtherKind)}},
		{"not where the writer's is a text", "message a{1 one text x;}message b{2 one int y;}", "message a{1 one b x;}message b{2 one text y;}", []api.Flaw{flaw("a", 1, api.OtherKind)}},
		{"not where nothing leads", "message a{}message b{2 one int y;}", "message a{}message b{2 one text y;}", nil},
		{"not of one name, but of one field", "message a{1 one b x;2 one c y;}message b{1 one int x;}message c{1 one text x;}",
			"message a{1 one c x;2 one b y;}message b{1 one text x;}message c{1 one int x;}", nil},
		{"of a writer's type, each of two readers", "message a{1 one b x;2 one b y;}message b{1 one int p;2 one int q;}",
			"message a{1 one c x;2 one d y;}message c{1 one bool p;}message d{2 one text q;}", []api.Flaw{flaw("b", 1, api.NoItem), flaw("b", 2, api.OtherKind)}},
	})
}

func TestFlawsAreToldOnce(t *testing.T) {
	checkFlaws(t, []flawsCase{
		{"by two fields", "message a{1 one b x;2 one b y;}message b{1 one int p;}", "message a{1 one b x;2 one b y;}message b{1 one bool p;}", []api.Flaw{flaw("b", 1, api.NoItem)}},
		{"of two readers", "message a{1 one b x;2 one b y;}message b{1 many int p;}", "message a{1 one c x;2 one d y;}message c{1 one bool p;}message d{1 one bool p;}",
			[]api.Flaw{flaw("b", 1, api.NotMany), flaw("b", 1, api.NoItem)}},
	})
}

// The order in which types are found is not the order in which their flaws are told.
func TestFlawsAreToldInOrder(t *testing.T) {
	checkFlaws(t, []flawsCase{
		{"by name, then id, then why",
			"message a{1 maybe d x;2 maybe c y;3 maybe b z;9 many int n;}message b{5 one int p;10 many int q;}message c{1 many bool p;}message d{1 maybe a p;2 one int q;}",
			"message a{1 maybe d x;2 maybe c y;3 maybe b z;9 one bool n;}message b{5 one text p;10 one text q;}message c{1 one text p;}message d{1 maybe a p;2 one bool q;}",
			[]api.Flaw{
				flaw("a", 9, api.NotMany), flaw("a", 9, api.NoItem),
				flaw("b", 5, api.OtherKind), flaw("b", 10, api.OtherKind), flaw("b", 10, api.NotMany),
				flaw("c", 1, api.OtherKind), flaw("c", 1, api.NotMany),
				flaw("d", 2, api.NoItem),
			}},
		{"of one type, found twice",
			"message a{1 maybe b x;2 maybe b y;}message b{1 one int p;2 one int q;3 one int r;}",
			"message a{1 maybe c x;2 maybe d y;}message c{2 one bool q;3 maybe text r;}message d{1 one bool p;3 maybe bool r;}",
			[]api.Flaw{flaw("b", 1, api.NoItem), flaw("b", 2, api.NoItem), flaw("b", 3, api.OtherKind), flaw("b", 3, api.NoItem)}},
	})
}

// Three of the writer's and four of the reader's go round: only the twelfth pair has the flaw.
const (
	roundOfThree = "message a{1 maybe b x;}message b{1 maybe c x;}message c{1 maybe a x;2 one int y;}"
	roundOfFour  = "message a{1 maybe b x;2 one int y;}message b{1 maybe c x;2 one int y;}message c{1 maybe d x;2 one int y;}message d{1 maybe a x;2 one text y;}"
)

func TestFlawsHoweverFar(t *testing.T) {
	checkFlaws(t, []flawsCase{
		{"twelve pairs", roundOfThree, roundOfFour, []api.Flaw{flaw("c", 2, api.OtherKind)}},
		{"twelve pairs, the other way round", roundOfFour, roundOfThree, []api.Flaw{flaw("d", 2, api.OtherKind)}},
	})
}

func TestFlawsOfOtherNames(t *testing.T) {
	w, r := parse(t, "message a{1 one int x;}message b{1 one int x;2 maybe a y;}"), parse(t, "message a{1 one text x;}message b{1 one int x;}")
	if l, e := compat.Flaws(w, r, "a"); e != api.OK || !slices.Equal(l, []api.Flaw{flaw("a", 1, api.OtherKind)}) {
		t.Errorf("%+v, %d", l, e)
	}
	if l, e := compat.Flaws(w, r, "b"); e != api.OK || len(l) != 0 {
		t.Errorf("%+v, %d", l, e)
	}
}

// Errors of all three.

func TestBooksThatAreNotGood(t *testing.T) {
	good := parse(t, "message a{1 one int x;}")
	for what, bad := range notGood() {
		for _, b := range [][2]api.Book{{bad, good}, {good, bad}, {bad, bad}, {bad, {}}, {{}, bad}} {
			// That there is no such message, or what is wrong with the value, is told later only.
			for _, name := range []string{"a", "x", ""} {
				checkError(t, what, b[0], b[1], name, api.ErrForm)
			}
		}
	}
}

func TestMessagesThatAreNotThere(t *testing.T) {
	both := parse(t, "message a{1 one int x;}message b{}enum e{0 x;}")
	one := parse(t, "message a{1 one text x;}message e{}enum b{0 x;}")
	for _, name := range []string{"x", "", "aa", "A", "int", "b", "e"} {
		checkError(t, "not in one", both, one, name, api.ErrNone)
		checkError(t, "not in the other", one, both, name, api.ErrNone)
	}
	for _, name := range []string{"a", "b", "e", ""} {
		checkError(t, "no reader", both, api.Book{}, name, api.ErrNone)
		checkError(t, "no writer", api.Book{}, both, name, api.ErrNone)
		checkError(t, "neither", api.Book{}, api.Book{}, name, api.ErrNone)
	}
}

func checkError(t *testing.T, what string, w, r api.Book, name string, want api.Errno) {
	t.Helper()
	if l, e := compat.Flaws(w, r, name); e != want || len(l) != 0 {
		t.Errorf("%s, %q: Flaws: %+v, %d", what, name, l, e)
	}
	if v, e := compat.Witness(w, r, name); e != want || !empty(v) {
		t.Errorf("%s, %q: Witness: %+v, %d", what, name, v, e)
	}
	for _, v := range []api.Value{message(), message(in{1, number(1)}), text("x"), times(api.MaxCount, 1, number(0))} {
		if v, e := compat.Project(w, r, name, v); e != want || !empty(v) {
			t.Errorf("%s, %q: Project: %+v, %d", what, name, v, e)
		}
	}
}

// Against a plain reckoning.

// mayHave is whether a field may have a number, as Typed says it.
func mayHave(b api.Book, f api.Field, n int) bool {
	f.Id, f.Rule, f.Name = 1, api.One, "f"
	alone := api.Book{Types: []api.Type{{Name: "aa", Fields: []api.Field{f}}}}
	if t, ok := book.Find(b, f.Type); ok {
		alone.Types = append(alone.Types, t)
	}
	return value.Typed(alone, "aa", message(in{1, number(n)})) == api.OK
}

func plainFlaws(w, r api.Book, wt, rt string, seen map[string]bool, out map[api.Flaw]bool) {
	if seen[wt+" "+rt] {
		return
	}
	seen[wt+" "+rt] = true
	a, _ := book.Find(w, wt)
	b, _ := book.Find(r, rt)
	for _, f := range a.Fields {
		g, ok := book.FieldOf(b, f.Id)
		if !ok {
			continue
		}
		if value.Kind(f.Kind) != value.Kind(g.Kind) {
			out[flaw(wt, f.Id, api.OtherKind)] = true
		}
		if f.Rule == api.Many && g.Rule != api.Many {
			out[flaw(wt, f.Id, api.NotMany)] = true
		}
		if f.Kind == api.Message && g.Kind == api.Message {
			plainFlaws(w, r, f.Type, g.Type, seen, out)
		}
		if value.Kind(f.Kind) != api.IsNumber || value.Kind(g.Kind) != api.IsNumber {
			continue
		}
		for n := -3; n < 9; n++ {
			if mayHave(w, f, n) && !mayHave(r, g, n) {
				out[flaw(wt, f.Id, api.NoItem)] = true
			}
		}
	}
}

func TestAnyBooks(t *testing.T) {
	rnd := rand.New(rand.NewSource(4))
	some, none := 0, 0
	for range 4000 {
		w := anyBook(rnd)
		r := later(rnd, w)
		if rnd.Intn(4) == 0 {
			r = anyBook(rnd)
		}
		keptW, keptR := copied(w), copied(r)
		out := map[api.Flaw]bool{}
		plainFlaws(w, r, "a", "a", map[string]bool{}, out)
		var want []api.Flaw
		for f := range out {
			want = append(want, f)
		}
		sort.Slice(want, func(i, j int) bool {
			return fmt.Sprintf("%s %2d %d", want[i].Type, want[i].Id, want[i].Why) < fmt.Sprintf("%s %2d %d", want[j].Type, want[j].Id, want[j].Why)
		})
		l, e := compat.Flaws(w, r, "a")
		if e != api.OK || !slices.Equal(l, want) {
			t.Fatalf("%+v\n%+v\n%+v, %d, not %+v", w, r, l, e, want)
		}
		checkWitness(t, w, r, "a")
		checkProjects(t, rnd, w, r)
		if !reflect.DeepEqual(copied(w), keptW) || !reflect.DeepEqual(copied(r), keptR) {
			t.Fatalf("a book was changed: %+v, %+v", w, r)
		}
		if len(l) > 0 {
			some++
		} else {
			none++
		}
	}
	// Else this would tell little.
	if some < 500 || none < 500 {
		t.Errorf("%d with flaws, %d without", some, none)
	}
}
