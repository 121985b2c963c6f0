package repo_test

import (
	"math"
	"slices"
	"testing"

	"patternbook/api"
	"patternbook/repo"
)

// bare is commits of empty books, by the parents of each.
func bare(parents ...[]int) []api.Commit {
	var l []api.Commit
	for _, p := range parents {
		l = append(l, api.Commit{Parents: p})
	}
	return l
}

// P6.2

func TestBehind(t *testing.T) {
	diamond := bare(nil, []int{0}, []int{0}, []int{2, 1}, nil, []int{3, 4})
	for _, c := range []struct {
		what string
		l    []api.Commit
		n    int
		want []int
	}{
		{"the first", diamond, 0, []int{0}},
		{"one behind it", diamond, 1, []int{0, 1}},
		{"not its neighbour", diamond, 2, []int{0, 2}},
		{"of two parents, rising, each once", diamond, 3, []int{0, 1, 2, 3}},
		{"another first", diamond, 4, []int{4}},
		{"all", diamond, 5, []int{0, 1, 2, 3, 4, 5}},
		{"one after the last", diamond, 6, nil},
		{"none below 0", diamond, -1, nil},
		{"far beyond", diamond, math.MaxInt, nil},
		{"far below", diamond, math.MinInt, nil},
		{"of no commits", nil, 0, nil},
		{"of no commits, below 0", nil, -1, nil},
		{"itself its parent", bare([]int{0}), 0, []int{0}},
		{"a parent above it", bare([]int{1}, nil), 0, []int{0}},
		{"a parent above it, behind one", bare([]int{2}, []int{0}, nil), 1, []int{0, 1}},
		{"each the other's parent", bare([]int{1}, []int{0}), 1, []int{0, 1}},
		{"parents that are none", bare(nil, []int{-1, 7, math.MaxInt, math.MinInt, 0}), 1, []int{0, 1}},
		{"a parent twice", bare(nil, []int{0, 0}), 1, []int{0, 1}},
		{"a parent that is greater than n only", bare(nil, nil, []int{3, 1}, []int{0}), 2, []int{1, 2}},
		{"far back", bare(nil, nil, nil, []int{1}), 3, []int{1, 3}},
	} {
		if got := repo.Behind(c.l, c.n); !slices.Equal(got, c.want) {
			t.Errorf("%s: %v; wanted %v", c.what, got, c.want)
		}
	}
}

func TestBase(t *testing.T) {
	// 3 and 4 have each merged 1 and 2; 5 and 6 are first ones.
	cross := bare(nil, []int{0}, []int{0}, []int{1, 2}, []int{2, 1}, nil, []int{6}, []int{5, 4})
	for _, c := range []struct {
		what       string
		l          []api.Commit
		a, b, want int
	}{
		{"one with itself", cross, 2, 2, 2},
		{"one behind the other", cross, 3, 1, 1},
		{"neighbours", cross, 1, 2, 0},
		{"the greatest of several", cross, 3, 4, 2},
		{"the greatest, farther", cross, 7, 3, 2},
		{"one of two parents", cross, 7, 5, 5},
		{"nothing in common", cross, 5, 4, -1},
		{"two first ones", cross, 5, 6, -1},
		{"no such commit", cross, 0, 8, -1},
		{"none below 0", cross, 0, -1, -1},
		{"neither", cross, -1, -1, -1},
		{"far beyond", cross, math.MaxInt, math.MinInt, -1},
		{"of no commits", nil, 0, 0, -1},
		{"parents above are nothing", bare([]int{1}, nil), 0, 1, -1},
	} {
		if got := repo.Base(c.l, c.a, c.b); got != c.want {
			t.Errorf("%s: %d; wanted %d", c.what, got, c.want)
		}
		if got := repo.Base(c.l, c.b, c.a); got != c.want {
			t.Errorf("%s, the other way round: %d; wanted %d", c.what, got, c.want)
		}
	}
}

// Every two of a line lead to the first one by very many ways, and far: each commit may be gone through but once.
func TestManyWaysBack(t *testing.T) {
	const count = 100000
	l := make([]api.Commit, count)
	for i := range l {
		l[i].Parents = []int{i - 2, i - 1, i - 1, i, i + 1}
	}
	if got := repo.Behind(l, count-1); len(got) != count || got[0] != 0 || got[count-1] != count-1 {
		t.Errorf("%d", len(got))
	}
	if got := repo.Base(l, count-1, count-2); got != count-2 {
		t.Errorf("%d", got)
	}
}

// P6.3

const (
	number = "message a{1 one int x;}"
	words  = "message a{1 one text x;}"
	many   = "message a{1 many int x;}"
	truth  = "message a{1 one bool x;}"
	none   = "message a{}"
)

func TestBreaks(t *testing.T) {
	kind, rule, item := flaw("a", 1, api.OtherKind), flaw("a", 1, api.NotMany), flaw("a", 1, api.NoItem)
	for _, c := range []struct {
		what                    string
		l                       []api.Commit
		n                       int
		backward, forward, full []api.Flaw
	}{
		{"one alone", line(t, number), 0, nil, nil, nil},
		{"two alike", line(t, number, number), 1, nil, nil, nil},
		{"another kind", line(t, number, words), 1, []api.Flaw{kind}, []api.Flaw{kind}, []api.Flaw{kind}},
		{"many now", line(t, number, many), 1, nil, []api.Flaw{rule}, []api.Flaw{rule}},
		{"many no more", line(t, many, number), 1, []api.Flaw{rule}, nil, []api.Flaw{rule}},
		{"any number now", line(t, truth, number), 1, nil, []api.Flaw{item}, []api.Flaw{item}},
		{"a field more", line(t, none, number), 1, nil, nil, nil},
		{"all flaws of both", line(t, "message a{1 many int x;2 one int y;}", "message a{1 one bool x;2 one text y;}"), 1,
			[]api.Flaw{rule, item, flaw("a", 2, api.OtherKind)}, []api.Flaw{flaw("a", 2, api.OtherKind)}, []api.Flaw{rule, item, flaw("a", 2, api.OtherKind)}},
		{"the elder reads it, but the one ahead of it does not", line(t, number, none, words), 2, []api.Flaw{kind}, []api.Flaw{kind}, []api.Flaw{kind}},
		{"what stands above n is nothing", line(t, number, words), 0, nil, nil, nil},
		{"neighbours are not held against each other", []api.Commit{at(t, none), at(t, number, 0), at(t, words, 0), at(t, none, 1, 2)}, 3, nil, nil, nil},
		{"not all parents are its own", []api.Commit{at(t, number), at(t, words), at(t, number, 0)}, 2, nil, nil, nil},
		{"a parent above it is nothing", []api.Commit{at(t, number, 1), at(t, words)}, 0, nil, nil, nil},
		{"between two far below n", line(t, number, words, words, words), 3, []api.Flaw{kind}, []api.Flaw{kind}, []api.Flaw{kind}},
		{"no such commit", line(t, number, words), 2, nil, nil, nil},
		{"none below 0", line(t, number, words), -1, nil, nil, nil},
		{"of no commits", nil, 0, nil, nil, nil},
	} {
		for policy, want := range [][]api.Flaw{nil, c.backward, c.forward, c.full} {
			if got := repo.Breaks(c.l, c.n, policy); !slices.Equal(got, want) {
				t.Errorf("%s: by policy %d: %+v; wanted %+v", c.what, policy, got, want)
			}
		}
		// Of other policies nothing is said, but that they end.
		for _, policy := range []int{-1, 4, math.MaxInt, math.MinInt} {
			repo.Breaks(c.l, c.n, policy)
		}
	}
}

// The first that are some: by c, then by a, then by type, then backward ahead of forward.
func TestOrderOfBreaks(t *testing.T) {
	for _, c := range []struct {
		what string
		l    []api.Commit
		want []api.Flaw
	}{
		{"the least c", line(t, "message a{1 one int x;2 one int y;}", "message a{2 one text y;}", "message a{1 one text x;}"), []api.Flaw{flaw("a", 2, api.OtherKind)}},
		{"the least a", line(t, "message a{1 one int x;}", "message a{2 one int y;}", "message a{1 one text x;2 one text y;}"), []api.Flaw{flaw("a", 1, api.OtherKind)}},
		{"the least c ahead of the least a", line(t, "message a{1 one int x;}", "message a{2 one int y;}", "message a{2 one text y;}", "message a{1 one text x;}"), []api.Flaw{flaw("a", 2, api.OtherKind)}},
		{"the first type", line(t, "message a{1 one int x;}message b{1 one int x;}", "message a{1 one text x;}message b{1 one text x;}"), []api.Flaw{flaw("a", 1, api.OtherKind)}},
		{"the first type, though forward only", line(t, "message a{1 one int x;}message b{1 many int x;}", "message a{1 many int x;}message b{1 one int x;}"), []api.Flaw{flaw("a", 1, api.NotMany)}},
		{"backward ahead of forward", line(t, "message a{1 one int x;2 many int y;}", "message a{1 many int x;2 one int y;}"), []api.Flaw{flaw("a", 2, api.NotMany)}},
	} {
		if got := repo.Breaks(c.l, len(c.l)-1, api.Full); !slices.Equal(got, c.want) {
			t.Errorf("%s: %+v; wanted %+v", c.what, got, c.want)
		}
	}
}

// Flaws are told by the writer's type, and the writer of what is read forward is the later one.
func TestBreaksTellsTheWritersType(t *testing.T) {
	l := line(t, "message a{1 one b x;}message b{1 one int x;}message c{}", "message a{1 one c x;}message b{}message c{1 one text x;}")
	for policy, want := range []string{api.Backward: "b", api.Forward: "c", api.Full: "b"} {
		if want == "" {
			continue
		}
		if got := repo.Breaks(l, 1, policy); !slices.Equal(got, []api.Flaw{flaw(want, 1, api.OtherKind)}) {
			t.Errorf("by policy %d: %+v", policy, got)
		}
	}
}

// Errors of Flaws are none: a type that is not there any more, or is an enum now, and books that are not good.
func TestBreaksWithoutFlaws(t *testing.T) {
	bad := api.Commit{Book: api.Book{Types: []api.Type{{Name: "a", Fields: []api.Field{{Id: 1, Name: "x", Kind: api.Text}}}}}, Parents: []int{0}}
	for what, l := range map[string][]api.Commit{
		"taken out":              line(t, number, ""),
		"put in":                 line(t, "", number),
		"an enum now":            line(t, number, "enum a{0 p;}"),
		"a message now":          line(t, "enum a{0 p;}", number),
		"enums":                  line(t, "enum a{0 p;}", "enum a{1 q;}"),
		"not good":               {at(t, number), bad},
		"not good, and good":     {bad, at(t, number, 0)},
		"of other names":         line(t, number, "message b{1 one text x;}"),
		"neither is good":        {bad, bad},
		"a type without a name":  {{Book: api.Book{Types: make([]api.Type, 3)}}, at(t, number, 0)},
		"a book without a type":  {{}, {Parents: []int{0}}},
		"more types than may be": {{Book: api.Book{Types: make([]api.Type, 100)}}, at(t, number, 0)},
	} {
		if got := repo.Breaks(l, 1, api.Full); len(got) != 0 {
			t.Errorf("%s: %+v", what, got)
		}
	}
	// But the types behind one of which there is an error are asked.
	l := line(t, "message a{}message b{1 one int x;}", "message b{1 one text x;}")
	if got := repo.Breaks(l, 1, api.Full); !slices.Equal(got, []api.Flaw{flaw("b", 1, api.OtherKind)}) {
		t.Errorf("%+v", got)
	}
}

// What holds everywhere.
func TestListsAreLeftAlone(t *testing.T) {
	l := append(line(t, number, many, words), at(t, "enum e{0 p;1 q;}message m{1 one e x;gone 2;}", 2, 1))
	l = slices.Grow(l, 3)
	l[:5][4] = at(t, number, 3)
	if !unchanged(l, func() {
		for n := -1; n < 5; n++ {
			clear(repo.Behind(l, n))
			repo.Base(l, n, 3)
			for policy := range 4 {
				clear(repo.Breaks(l, n, policy))
			}
		}
	}) {
		t.Error("changed what was handed in")
	}
}
