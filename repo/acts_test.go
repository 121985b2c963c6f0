package repo_test

import (
	"math"
	"strings"
	"testing"

	"patternbook/api"
	"patternbook/repo"
)

// P6.5

func TestCommit(t *testing.T) {
	r := repo.New()
	do(t, r,
		says(commit("main", -1, number), 0),
		says(commit("main", 0, many), 1),
		says(commit("side", -1, words), 2),
		says(commit("main", 1, " enum e { 1 q ; 0 p ; }"), 3),
		says(commit("side", 2, ""), 4),
		tells(show(0), 0, printed(t, number)),
		tells(show(1), 1, printed(t, many)),
		tells(show(2), 0, printed(t, words)),
		tells(show(3), 1, "enum e {\n  0 p;\n  1 q;\n}\n"),
		tells(show(4), 1, ""),
	)
	wantRefs(t, r, ref("main", 3, api.None), ref("side", 4, api.None))
	if l := r.Commits(); !sameCommits(l, []api.Commit{at(t, number), at(t, many, 0), at(t, words), at(t, "enum e{0 p;1 q;}", 1), at(t, "", 2)}) {
		t.Errorf("%+v", l)
	}
}

func TestErrorsOfCommit(t *testing.T) {
	long := strings.Repeat(" ", api.MaxSource+1)
	five := "message a{}message b{}message c{}message d{}message f{}"
	r := repo.New()
	// ErrForm of the name, ahead of the text's error.
	for _, name := range []string{"", "Main", "message", "a b", "abcdefghijklm", "a\x00", "a1"} {
		do(t, r, fails(commit(name, -1, number), api.ErrForm), fails(commit(name, 7, long), api.ErrForm), fails(commit(name, 7, five), api.ErrForm))
	}
	// Parse's error, ahead of ErrOld.
	for _, n := range []int{-1, 0, 7} {
		do(t, r, fails(commit("main", n, long), api.ErrLong), fails(commit("main", n, five), api.ErrLong), fails(commit("main", n, "message"), api.ErrForm))
	}
	// ErrOld: a name that is not there is at -1 alone.
	for _, n := range []int{0, 1, -2, math.MaxInt, math.MinInt} {
		do(t, r, fails(commit("main", n, number), api.ErrOld))
	}
	do(t, r, says(commit("abcdefghijkl", -1, number), 0), says(commit("main", -1, number), 1), says(commit("main", 1, number), 2), says(protect("main", api.Full), 2))
	// And one that is there, where it is.
	for _, n := range []int{-1, 0, 1, 3, math.MaxInt, math.MinInt} {
		do(t, r, fails(commit("main", n, number), api.ErrOld), fails(commit("main", n, words), api.ErrOld), fails(commit("main", n, long), api.ErrLong), fails(commit("main", n, "x"), api.ErrForm))
	}
	do(t, r, breaks(commit("main", 2, words), flaw("a", 1, api.OtherKind)), says(commit("main", 2, number), 3))
}

// refsFull is a repo with as many names as may be, the first one at 1, each other one at 0.
func refsFull(t *testing.T) *repo.Repo {
	t.Helper()
	r := repo.New()
	do(t, r, says(commit("a", -1, number), 0))
	for _, name := range []string{"b", "c", "d", "e", "f"} {
		do(t, r, says(branch(name, 0), 0))
	}
	do(t, r, says(commit("a", 0, number), 1))
	return r
}

func TestFullOfNames(t *testing.T) {
	r := refsFull(t)
	if len(r.Refs()) != api.MaxRefs {
		t.Fatalf("%+v", r.Refs())
	}
	do(t, r,
		fails(commit("g", -1, number), api.ErrFull),
		fails(commit("g", 0, number), api.ErrOld),
		fails(commit("g", -1, "x"), api.ErrForm),
		says(commit("f", 0, number), 2),
		fails(branch("g", 0), api.ErrFull),
		fails(branch("f", 0), api.ErrTwice),
		fails(branch("f", 3), api.ErrNone),
		fails(branch("F", 3), api.ErrForm),
		says(remove("c"), 0),
		says(commit("g", -1, number), 3),
		fails(branch("c", 0), api.ErrFull),
		says(remove("a"), 1),
		says(branch("c", 3), 0),
	)
	wantRefs(t, r, ref("b", 0, 0), ref("c", 3, 0), ref("d", 0, 0), ref("e", 0, 0), ref("f", 2, 0), ref("g", 3, 0))
}

func TestFullOfCommits(t *testing.T) {
	const last = api.MaxCommits - 1
	r := full(t, number)
	do(t, r,
		fails(commit("main", last, number), api.ErrFull),
		fails(commit("main", last-1, number), api.ErrOld),
		fails(commit("side", -1, number), api.ErrFull),
		fails(commit("side", 0, number), api.ErrOld),
		says(protect("main", api.Full), last),
		// Ahead of what breaks.
		fails(commit("main", last, words), api.ErrFull),
		says(branch("side", last), 0),
		says(move("main", last, 3), 3),
		fails(commit("main", 3, number), api.ErrFull),
	)
	if len(r.Commits()) != api.MaxCommits {
		t.Errorf("%d", len(r.Commits()))
	}
}

func TestCommitKeepsThePolicy(t *testing.T) {
	for policy, e := range map[int][3]api.Errno{
		// Many now, then many no more, then of another kind.
		api.None:     {},
		api.Backward: {0, api.ErrBreaks, api.ErrBreaks},
		api.Forward:  {api.ErrBreaks, 0, api.ErrBreaks},
		api.Full:     {api.ErrBreaks, api.ErrBreaks, api.ErrBreaks},
	} {
		for i, c := range [3][2]string{{number, many}, {many, number}, {number, words}} {
			r := repo.New()
			do(t, r, says(commit("main", -1, c[0]), 0), says(protect("main", policy), 0))
			if x := r.Do(commit("main", 0, c[1])); x.Code != e[i] || (x.Code != api.OK) != (len(x.Flaws) == 1) || (x.Code == api.OK) != (x.N == 1) {
				t.Errorf("by policy %d: %s: %+v", policy, c, x)
			}
			if l := r.Commits(); (len(l) == 1) != (e[i] != api.OK) {
				t.Errorf("by policy %d: %s: %d commits", policy, c, len(l))
			}
		}
	}
}

// A name is held against all that it stands behind, but against nothing else.
func TestCommitKeepsThePolicyOfAllBehind(t *testing.T) {
	r := repo.New()
	do(t, r,
		says(commit("main", -1, number), 0),
		says(commit("main", 0, none), 1),
		says(protect("main", api.Backward), 1),
		breaks(commit("main", 1, words), flaw("a", 1, api.OtherKind)),
		// The number of what was refused is given to the next one.
		says(commit("side", -1, words), 2),
		says(commit("main", 1, many), 3),
		says(commit("side", 2, number), 4),
		// A name of the same name, once it is gone, is a new one.
		says(remove("main"), 3),
		fails(commit("main", 3, words), api.ErrOld),
		says(commit("main", -1, words), 5),
		says(commit("main", 5, number), 6),
	)
	wantRefs(t, r, ref("main", 6, api.None), ref("side", 4, api.None))
}

// P6.6

func TestBranch(t *testing.T) {
	r := repo.New()
	do(t, r,
		fails(branch("main", 0), api.ErrNone),
		fails(branch("main", -1), api.ErrNone),
		says(commit("main", -1, number), 0),
		says(protect("main", api.Full), 0),
		says(commit("main", 0, number), 1),
		// Nothing is said of a number in the reply.
		says(branch("side", 1), 0),
		says(branch("old", 0), 0),
		fails(branch("side", 0), api.ErrTwice),
		fails(branch("main", 1), api.ErrTwice),
	)
	for _, n := range []int{-1, 2, math.MaxInt, math.MinInt} {
		do(t, r, fails(branch("more", n), api.ErrNone), fails(branch("side", n), api.ErrNone), fails(branch("Side", n), api.ErrForm))
	}
	for _, name := range []string{"", "gone", "abcdefghijklm", "a b"} {
		do(t, r, fails(branch(name, 0), api.ErrForm))
	}
	wantRefs(t, r, ref("main", 1, api.Full), ref("old", 0, api.None), ref("side", 1, api.None))
	// Of policy None, though main is not.
	do(t, r, says(commit("side", 1, words), 2))
}

func TestNamesThatAreNotThere(t *testing.T) {
	r := repo.New()
	do(t, r, says(commit("main", -1, number), 0))
	for _, name := range []string{"", "mai", "mainn", "Main", "a", "z", "many"} {
		do(t, r,
			fails(protect(name, 0), api.ErrNone),
			fails(protect(name, 4), api.ErrNone),
			fails(mergeInto(name, 0, "main"), api.ErrNone),
			fails(mergeInto(name, 7, name), api.ErrNone),
			fails(move(name, 0, 0), api.ErrNone),
			fails(move(name, 7, 7), api.ErrNone),
			fails(remove(name), api.ErrNone),
		)
	}
}

func TestDelete(t *testing.T) {
	r := repo.New()
	do(t, r,
		says(commit("main", -1, number), 0),
		says(commit("main", 0, number), 1),
		says(branch("old", 0), 0),
		says(protect("main", api.Full), 1),
		says(remove("main"), 1),
		fails(remove("main"), api.ErrNone),
		says(remove("old"), 0),
		// Its commits stay.
		tells(show(1), 1, printed(t, number)),
		says(branch("main", 1), 0),
	)
	wantRefs(t, r, ref("main", 1, api.None))
}

func TestProtect(t *testing.T) {
	r := repo.New()
	do(t, r,
		says(commit("main", -1, many), 0),
		says(commit("main", 0, many), 1),
		says(commit("main", 1, number), 2),
		says(commit("main", 2, number), 3),
	)
	for _, policy := range []int{-1, 4, math.MaxInt, math.MinInt} {
		do(t, r, fails(protect("main", policy), api.ErrRange))
	}
	rule := flaw("a", 1, api.NotMany)
	do(t, r, breaks(protect("main", api.Backward), rule), breaks(protect("main", api.Full), rule), says(protect("main", api.Forward), 3))
	wantRefs(t, r, ref("main", 3, api.Forward))
	// The one that it has stays, where it does not keep another one.
	do(t, r, breaks(protect("main", api.Full), rule), fails(protect("main", 4), api.ErrRange))
	wantRefs(t, r, ref("main", 3, api.Forward))
	do(t, r, breaks(commit("main", 3, many), rule), says(protect("main", api.None), 3), says(commit("main", 3, many), 4))
	wantRefs(t, r, ref("main", 4, api.None))
	do(t, r, breaks(protect("main", api.Forward), rule))
}

// P6.7

func TestMove(t *testing.T) {
	r := repo.New()
	do(t, r,
		says(commit("main", -1, number), 0),
		says(commit("main", 0, many), 1),
		says(commit("side", -1, words), 2),
		says(commit("side", 2, none), 3),
		says(commit("side", 3, number), 4),
		says(move("main", 1, 0), 0),
		says(move("main", 0, 2), 2),
		says(move("main", 2, 2), 2),
		says(move("main", 2, 1), 1),
		says(protect("main", api.Backward), 1),
	)
	wantRefs(t, r, ref("main", 1, api.Backward), ref("side", 4, api.None))
	// ErrOld, ahead of that there is no commit M, ahead of what breaks.
	for _, n := range []int{-1, 0, 2, 9, math.MaxInt, math.MinInt} {
		do(t, r, fails(move("main", n, 0), api.ErrOld), fails(move("main", n, 9), api.ErrOld), fails(move("main", n, 4), api.ErrOld))
	}
	for _, m := range []int{-1, 5, math.MaxInt, math.MinInt} {
		do(t, r, fails(move("main", 1, m), api.ErrNone))
	}
	// Only what the commit stands behind is asked, not what the name came from.
	do(t, r, breaks(move("main", 1, 4), flaw("a", 1, api.OtherKind)), says(move("main", 1, 3), 3), says(move("main", 3, 0), 0))
	wantRefs(t, r, ref("main", 0, api.Backward), ref("side", 4, api.None))
}

func TestErrorsOfMerge(t *testing.T) {
	r := repo.New()
	do(t, r, says(commit("main", -1, number), 0), says(commit("main", 0, number), 1), says(branch("side", 0), 0))
	for _, n := range []int{-1, 0, 2, math.MaxInt, math.MinInt} {
		do(t, r, fails(mergeInto("main", n, "side"), api.ErrOld), fails(mergeInto("main", n, "none"), api.ErrOld), fails(mergeInto("main", n, "main"), api.ErrOld))
	}
	for _, other := range []string{"", "none", "Side", "sid", "sidee"} {
		do(t, r, fails(mergeInto("main", 1, other), api.ErrNone))
	}
}

func TestMergeOfOneBehindTheOther(t *testing.T) {
	r := repo.New()
	do(t, r,
		says(commit("main", -1, number), 0),
		says(branch("side", 0), 0),
		says(commit("main", 0, none), 1),
		says(commit("main", 1, words), 2),
		// Nothing: also with itself, and where both are at one commit.
		says(mergeInto("main", 2, "main"), 2),
		says(mergeInto("main", 2, "side"), 2),
		says(branch("twin", 2), 0),
		says(mergeInto("main", 2, "twin"), 2),
		says(protect("side", api.Backward), 0),
		breaks(mergeInto("side", 0, "main"), flaw("a", 1, api.OtherKind)),
		says(move("main", 2, 1), 1),
		says(mergeInto("side", 0, "main"), 1),
	)
	wantRefs(t, r, ref("main", 1, api.None), ref("side", 1, api.Backward), ref("twin", 2, api.None))
	if len(r.Commits()) != 3 {
		t.Errorf("%+v", r.Commits())
	}
	// What one stands behind is not asked whether it keeps anything, where nothing is done.
	do(t, r, says(protect("twin", api.None), 2), says(mergeInto("twin", 2, "side"), 2), says(mergeInto("side", 1, "side"), 1))
}

// One stands behind the other also by a second parent, and by way of others.
func TestMergeOfOneFarBehindTheOther(t *testing.T) {
	r := repo.New()
	do(t, r,
		says(commit("main", -1, none), 0),
		says(branch("side", 0), 0),
		says(commit("main", 0, number), 1),
		says(commit("side", 0, "message a{2 one int y;}"), 2),
		says(mergeInto("main", 1, "side"), 3),
		says(commit("main", 3, none), 4),
		says(mergeInto("main", 4, "side"), 4),
		says(mergeInto("side", 2, "main"), 4),
	)
	wantRefs(t, r, ref("main", 4, api.None), ref("side", 4, api.None))
}

// P6.8

func TestMergeOfTwo(t *testing.T) {
	r := repo.New()
	do(t, r,
		says(commit("main", -1, "message a{1 one int x;2 one int y;}"), 0),
		says(branch("side", 0), 0),
		says(commit("main", 0, "message a{1 one int x;}"), 1),
		says(commit("side", 0, "message a{1 one int x;2 one int y;3 one int z;}"), 2),
		says(mergeInto("side", 2, "main"), 3),
		// Its own commit ahead of the other's.
		tells(show(3), 2, printed(t, "message a{1 one int x;3 one int z;}")),
	)
	wantRefs(t, r, ref("main", 1, api.None), ref("side", 3, api.None))
	if l := r.Commits(); !sameCommits(l[3:], []api.Commit{at(t, "message a{1 one int x;3 one int z;}", 2, 1)}) {
		t.Errorf("%+v", l)
	}
}

// Without a base all is held against a book without types.
func TestMergeWithoutBase(t *testing.T) {
	r := repo.New()
	do(t, r,
		says(commit("a", -1, "message a{1 one int x;}enum e{0 p;}"), 0),
		says(commit("b", -1, "message a{2 one int y;}enum e{0 p;1 q;}"), 1),
		says(commit("c", -1, "message a{1 one text x;}enum e{0 q;}"), 2),
		conflicts(mergeInto("a", 0, "c"), flaw("a", 1, 0), flaw("e", 0, 0)),
		conflicts(mergeInto("c", 2, "a"), flaw("a", 1, 0), flaw("e", 0, 0)),
		says(mergeInto("a", 0, "b"), 3),
		tells(show(3), 2, printed(t, "message a{1 one int x;2 one int y;}enum e{0 p;1 q;}")),
	)
}

// Where both stand behind several, it is the greatest whose book was changed.
func TestMergeByTheBase(t *testing.T) {
	r := repo.New()
	do(t, r,
		says(commit("main", -1, "message a{1 one int x;}"), 0),
		says(branch("side", 0), 0),
		says(commit("main", 0, "message a{1 one int x;2 one int y;}"), 1),
		says(commit("side", 0, "message a{1 one int x;3 one int z;}"), 2),
		says(branch("old", 1), 0),
		says(mergeInto("main", 1, "side"), 3),
		says(mergeInto("side", 2, "old"), 4),
		says(commit("main", 3, "message a{1 one int x;2 one int y;}"), 5),
		says(commit("side", 4, "message a{1 one int x;2 one int y;3 one int z;4 one int u;}"), 6),
		// Both stand behind 0, 1 and 2: of 2 the field 3 was there, and main has taken it out.
		says(mergeInto("main", 5, "side"), 7),
		tells(show(7), 2, printed(t, "message a{1 one int x;2 one int y;4 one int u;}")),
	)
}

func TestErrorsOfBooks(t *testing.T) {
	r := repo.New()
	do(t, r,
		says(commit("main", -1, "message a{1 one int x;2 one int y;}"), 0),
		says(branch("side", 0), 0),
		says(branch("more", 0), 0),
		says(commit("main", 0, "message a{1 one int p;2 one bool y;3 one int z;}message b{}"), 1),
		says(commit("side", 0, "message a{1 one int q;2 one text y;}"), 2),
		says(commit("more", 0, "message a{1 one int x;2 one int y;4 one int z;}"), 3),
		conflicts(mergeInto("main", 1, "side"), flaw("a", 1, 0), flaw("a", 2, 0)),
		// Good's error of what comes of it, without flaws.
		fails(mergeInto("main", 1, "more"), api.ErrForm),
		says(move("more", 3, 0), 0),
		says(commit("more", 0, "message a{1 one int x;2 one int y;}message c{}message d{}message e{}"), 4),
		fails(mergeInto("main", 1, "more"), api.ErrLong),
	)
}

func TestMergeKeepsThePolicy(t *testing.T) {
	r := repo.New()
	do(t, r,
		says(commit("main", -1, number), 0),
		says(protect("main", api.Full), 0),
		says(branch("side", 0), 0),
		says(commit("side", 0, words), 1),
		says(commit("main", 0, "message a{1 one int x;2 one int y;}"), 2),
		breaks(mergeInto("main", 2, "side"), flaw("a", 1, api.OtherKind)),
		// Also where the merged book itself could be read: what the other has been is behind it, too.
		says(commit("side", 1, number), 3),
		breaks(mergeInto("main", 2, "side"), flaw("a", 1, api.OtherKind)),
		says(mergeInto("side", 3, "main"), 4),
	)
	wantRefs(t, r, ref("main", 2, api.Full), ref("side", 4, api.None))
}

func TestMergeWhereCommitsAreFull(t *testing.T) {
	const last = api.MaxCommits - 1
	r := repo.New()
	do(t, r, says(commit("main", -1, number), 0), says(branch("side", 0), 0), says(branch("more", 0), 0), says(branch("old", 0), 0))
	do(t, r, says(commit("side", 0, words), 1), says(commit("more", 0, "message a{1 one int x;2 one int y;}"), 2))
	old := 0
	for n := 3; n < last; n++ {
		do(t, r, says(commit("old", old, number), n))
		old = n
	}
	do(t, r,
		says(commit("main", 0, truth), last),
		// Books' error, ahead of ErrFull, ahead of what breaks.
		conflicts(mergeInto("main", last, "side"), flaw("a", 1, 0)),
		fails(mergeInto("main", last, "more"), api.ErrFull),
		says(protect("side", api.None), 1),
		says(protect("more", api.Full), 2),
		fails(mergeInto("more", 2, "side"), api.ErrFull),
		// Where one stands behind the other there is no commit to be put in.
		says(move("main", last, 0), 0),
		says(mergeInto("main", 0, "more"), 2),
		says(mergeInto("main", 2, "more"), 2),
	)
}

// P6.9

func TestShow(t *testing.T) {
	const text = "enum e{-1 o;1 p;}message a{gone 7 3;2 many e y;1 maybe a x;}"
	r := repo.New()
	do(t, r, fails(show(0), api.ErrNone), says(commit("main", -1, text), 0), says(commit("main", 0, ""), 1), says(commit("side", -1, number), 2), says(mergeInto("side", 2, "main"), 3),
		tells(show(0), 0, "message a {\n  1 maybe a x;\n  2 many e y;\n  gone 3 7;\n}\nenum e {\n  -1 o;\n  1 p;\n}\n"),
		tells(show(1), 1, ""),
		tells(show(2), 0, "message a {\n  1 one int x;\n}\n"),
		tells(show(3), 2, "message a {\n  1 one int x;\n}\n"),
		says(remove("main"), 1),
		tells(show(1), 1, ""),
	)
	for _, n := range []int{-1, 4, math.MaxInt, math.MinInt} {
		do(t, r, fails(show(n), api.ErrNone))
	}
}

func TestRead(t *testing.T) {
	r := repo.New()
	do(t, r,
		says(commit("main", -1, "message a{1 one int x;2 many text y;}message b{}"), 0),
		says(commit("main", 0, "message a{2 many text y;3 one e z;}enum e{5 p;6 q;}message c{}"), 1),
		says(commit("main", 1, "message a{2 maybe text y;}"), 2),
		// What the reader does not know is gone past, what lacks is the least.
		tells(read(0, 0, "a", "\x04\x06"), 1, "\x04\x06"),
		tells(read(0, 1, "a", "\x04\x06"), 1, "\x0c\x0a"),
		tells(read(0, 1, "a", "\x04\x06\x09\x02hi\x09\x00"), 3, "\x09\x02hi\x09\x00\x0c\x0a"),
		tells(read(1, 0, "a", "\x09\x02hi\x0c\x0c"), 2, "\x04\x00\x09\x02hi"),
		tells(read(0, 2, "a", "\x09\x02hi"), 1, "\x09\x02hi"),
		tells(read(0, 2, "a", "\x04\x06"), 0, ""),
		tells(read(0, 0, "b", "\x04\x06"), 0, ""),
		tells(read(2, 2, "a", ""), 0, ""),
		// What the writer does not know the reader still may.
		tells(read(2, 1, "a", "\x0c\x0c"), 1, "\x0c\x0c"),
		fails(read(0, 2, "a", "\x09\x00\x09\x00"), api.ErrTwice),
		fails(read(2, 1, "a", "\x0c\x00"), api.ErrItem),
		fails(read(1, 0, "a", "\x05\x00"), api.ErrWire),
		// There is no such type of the writer's, or of the reader's; an enum is none.
		fails(read(0, 1, "b", ""), api.ErrNone),
		fails(read(0, 1, "c", ""), api.ErrNone),
		fails(read(1, 1, "e", ""), api.ErrNone),
		fails(read(1, 1, "", ""), api.ErrNone),
		fails(read(1, 1, "A", ""), api.ErrNone),
	)
}

func TestErrorsOfRead(t *testing.T) {
	r := repo.New()
	do(t, r,
		says(commit("main", -1, "message a{1 many b x;2 maybe bool y;}message b{}"), 0),
		says(commit("main", 0, "message a{1 many b x;2 maybe text y;}message b{1 one int p;2 one int q;}"), 1),
		// The writer's error, ahead of the reader's.
		fails(read(0, 1, "a", "\x08\x04"), api.ErrItem),
		fails(read(0, 1, "a", "\x08\x02"), api.ErrWire),
		fails(read(1, 0, "a", "\x09\x01\xff"), api.ErrForm),
		fails(read(1, 0, "a", "\x09\x01a"), api.ErrWire),
		fails(read(0, 1, "b", "\x04"), api.ErrForm),
		fails(read(0, 1, "a", strings.Repeat("\x00", api.MaxBytes+1)), api.ErrLong),
		// Only the least values that the reader puts in make it too large.
		fails(read(0, 1, "a", strings.Repeat("\x06\x00", 200)), api.ErrLong),
		tells(read(0, 1, "a", strings.Repeat("\x06\x00", 133)), 133, strings.Repeat("\x06\x04\x04\x00\x08\x00", 133)),
		tells(read(0, 0, "a", strings.Repeat("\x06\x00", 200)), 200, strings.Repeat("\x06\x00", 200)),
	)
	for _, n := range []int{-1, 2, math.MaxInt, math.MinInt} {
		do(t, r, fails(read(n, 0, "a", ""), api.ErrNone), fails(read(0, n, "a", ""), api.ErrNone), fails(read(n, n, "", "\x00"), api.ErrNone),
			// Ahead of what is wrong with the bytes.
			fails(read(0, n, "a", "\x00"), api.ErrNone))
	}
}
