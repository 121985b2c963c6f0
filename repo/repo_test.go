package repo_test

import (
	"math"
	"slices"
	"testing"

	"patternbook/api"
	"patternbook/compat"
	"patternbook/repo"
)

// P6.1

func TestNew(t *testing.T) {
	r := repo.New()
	if r == nil || len(r.Commits()) != 0 || len(r.Refs()) != 0 {
		t.Fatalf("%+v", r)
	}
	do(t, r, says(commit("main", -1, number), 0))
	if len(repo.New().Commits()) != 0 || len(repo.New().Refs()) != 0 {
		t.Error("a new repo has what was put into another one")
	}
}

func TestNilRepo(t *testing.T) {
	var r *repo.Repo
	if len(r.Commits()) != 0 || len(r.Refs()) != 0 {
		t.Errorf("%+v, %+v", r.Commits(), r.Refs())
	}
	// ErrNone also where a repo would say ErrFull, ErrKind or ErrForm.
	for range api.MaxActs + 1 {
		do(t, r, fails(commit("main", -1, number), api.ErrNone))
	}
	for _, kind := range []int{-1, 0, 1, 2, 3, 4, 5, 6, 7, 8, 9} {
		do(t, r, fails(api.Act{Kind: kind}, api.ErrNone))
	}
}

func TestCommitsByNumberAndRefsByName(t *testing.T) {
	r := repo.New()
	do(t, r,
		says(commit("m", -1, number), 0),
		says(commit("z", -1, words), 1),
		says(commit("a", -1, many), 2),
		says(branch("mm", 1), 0),
		says(branch("b", 2), 0),
		says(commit("m", 0, none), 3),
	)
	wantRefs(t, r, ref("a", 2, 0), ref("b", 2, 0), ref("m", 3, 0), ref("mm", 1, 0), ref("z", 1, 0))
	if l := r.Commits(); !sameCommits(l, []api.Commit{at(t, number), at(t, words), at(t, many), at(t, none, 0)}) {
		t.Errorf("%+v", l)
	}
	do(t, r, says(remove("b"), 2), says(remove("z"), 1), says(branch("c", 0), 0))
	wantRefs(t, r, ref("a", 2, 0), ref("c", 0, 0), ref("m", 3, 0), ref("mm", 1, 0))
}

// What a repo answers is the caller's.
func TestAnswersAreTheCallers(t *testing.T) {
	const text = "message a{1 one int x;2 one e y;gone 3 4;}enum e{0 p;1 q;}"
	fill := func(r *repo.Repo) {
		do(t, r,
			says(commit("main", -1, text), 0),
			says(branch("side", 0), 0),
			says(commit("main", 0, text), 1),
			says(commit("side", 0, text), 2),
			says(mergeInto("main", 1, "side"), 3),
			says(protect("main", api.Full), 3),
		)
	}
	r, other := repo.New(), repo.New()
	fill(r)
	fill(other)
	spoil(r.Commits())
	clear(r.Refs())
	again := r.Commits()
	if !sameCommits(again, other.Commits()) || !slices.Equal(r.Refs(), other.Refs()) {
		t.Errorf("%+v, %+v", again, r.Refs())
	}
	if !unchanged(again, func() { spoil(r.Commits()) }) {
		t.Error("two answers share memory")
	}
	broken := commit("main", 3, "message a{1 one text x;}")
	clear(r.Do(broken).Flaws)
	do(t, r, breaks(broken, flaw("a", 1, api.OtherKind)), tells(show(3), 2, printed(t, text)))
}

// P6.4

func TestFullOfActs(t *testing.T) {
	r := repo.New()
	do(t, r, says(commit("main", -1, number), 0), fails(commit("main", -1, number), api.ErrOld), fails(api.Act{}, api.ErrKind), tells(show(0), 0, printed(t, number)))
	for range api.MaxActs - 5 {
		do(t, r, fails(show(1), api.ErrNone))
	}
	do(t, r, tells(show(0), 0, printed(t, number)))
	// Ahead of all else that may be wrong, and whatever would be done else.
	for range 3 {
		do(t, r, fails(show(0), api.ErrFull), fails(api.Act{Kind: 9}, api.ErrFull), fails(commit("Main", -1, ""), api.ErrFull), fails(remove("main"), api.ErrFull), fails(remove("none"), api.ErrFull))
	}
	wantRefs(t, r, ref("main", 0, api.None))
	if len(r.Commits()) != 1 {
		t.Error("commits")
	}
}

func TestKindsOfNone(t *testing.T) {
	r := repo.New()
	for _, kind := range []int{0, 9, -1, math.MaxInt, math.MinInt} {
		do(t, r, fails(api.Act{Kind: kind, Name: "main", N: -1, Text: number}, api.ErrKind), fails(api.Act{Kind: kind, Name: "Main"}, api.ErrKind))
	}
}

// P6.10

func TestRun(t *testing.T) {
	acts := []api.Act{commit("main", -1, number), {}, commit("main", 0, many), show(1), protect("main", api.Full), remove("main")}
	want := []api.Reply{{}, {Code: api.ErrKind}, {N: 1}, {N: 1, Text: printed(t, many)}, {Code: api.ErrBreaks, Flaws: []api.Flaw{flaw("a", 1, api.NotMany)}}, {N: 1}}
	given := slices.Clone(acts)
	for range 2 {
		got, e := repo.Run(acts)
		if e != api.OK || !slices.EqualFunc(got, want, sameReply) {
			t.Errorf("%+v, %d", got, e)
		}
	}
	if !slices.Equal(acts, given) {
		t.Error("changed what was handed in")
	}
	for _, l := range [][]api.Act{nil, {}} {
		if got, e := repo.Run(l); len(got) != 0 || e != api.OK {
			t.Errorf("%+v, %d", got, e)
		}
	}
}

func TestRunOfMany(t *testing.T) {
	acts := make([]api.Act, api.MaxActs, api.MaxActs+1)
	acts[0], acts[api.MaxActs-1] = commit("main", -1, number), show(0)
	got, e := repo.Run(acts)
	if e != api.OK || len(got) != api.MaxActs || got[1].Code != api.ErrKind || got[api.MaxActs-1].Text != printed(t, number) {
		t.Errorf("%+v, %d", got, e)
	}
	if got, e := repo.Run(append(acts, show(0))); len(got) != 0 || e != api.ErrFull {
		t.Errorf("%+v, %d", got, e)
	}
}

// The document's examples of the whole.
func TestExamplesOfTheWhole(t *testing.T) {
	r := repo.New()
	do(t, r,
		says(commit("main", -1, number), 0),
		says(protect("main", api.Full), 0),
		breaks(commit("main", 0, words), flaw("a", 1, api.OtherKind)),
		says(commit("main", 0, "message a{1 one int x;2 one text y;}"), 1),
		tells(read(0, 1, "a", "\x04\x06"), 2, "\x04\x06\x09\x00"),
		says(branch("side", 1), 0),
		says(commit("main", 1, "message a{1 one int x;2 one text y;3 one bool u;}"), 2),
		says(commit("side", 1, "message a{1 one int x;2 one text y;4 one bool v;}"), 3),
		says(mergeInto("main", 2, "side"), 4),
		tells(show(4), 2, printed(t, "message a{1 one int x;2 one text y;3 one bool u;4 one bool v;}")),
		says(move("side", 3, 1), 1),
		says(commit("side", 1, "message a{1 one int p;2 one text y;}"), 5),
		says(commit("main", 4, "message a{1 one int q;2 one text y;}"), 6),
		conflicts(mergeInto("side", 5, "main"), flaw("a", 1, 0)),
		says(commit("few", -1, "message a{1 one e x;}enum e{0 p;1 q;2 r;}"), 7),
		says(protect("few", api.Backward), 7),
		breaks(commit("few", 7, "message a{1 one e x;}enum e{0 p;1 q;}"), flaw("a", 1, api.NoItem)),
	)
	v, e := compat.Witness(r.Commits()[7].Book, parse(t, "message a{1 one e x;}enum e{0 p;1 q;}"), "a")
	if e != api.OK || len(v.L) != 1 || v.L[0].N != 2 {
		t.Errorf("%+v, %d", v, e)
	}
}
