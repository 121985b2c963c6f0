package repo_test

import (
	"reflect"
	"slices"
	"testing"

	"patternbook/api"
	"patternbook/book"
	"patternbook/merge"
	"patternbook/repo"
)

func parse(t testing.TB, s string) api.Book {
	t.Helper()
	b, e := book.Parse(s)
	if e != api.OK {
		t.Fatalf("%s: %d", s, e)
	}
	return b
}

// printed is a text's book as it is printed.
func printed(t testing.TB, s string) string {
	t.Helper()
	out, e := book.Print(parse(t, s))
	if e != api.OK {
		t.Fatalf("%s: %d", s, e)
	}
	return out
}

// Acts are shorter to write than their structs.

func commit(name string, n int, text string) api.Act {
	return api.Act{Kind: api.ActCommit, Name: name, N: n, Text: text}
}

func branch(name string, n int) api.Act { return api.Act{Kind: api.ActBranch, Name: name, N: n} }

func protect(name string, policy int) api.Act {
	return api.Act{Kind: api.ActProtect, Name: name, N: policy}
}

func mergeInto(name string, n int, other string) api.Act {
	return api.Act{Kind: api.ActMerge, Name: name, N: n, Other: other}
}

func move(name string, n, m int) api.Act {
	return api.Act{Kind: api.ActMove, Name: name, N: n, M: m}
}

func remove(name string) api.Act { return api.Act{Kind: api.ActDelete, Name: name} }

func show(n int) api.Act { return api.Act{Kind: api.ActShow, N: n} }

func read(n, m int, name, text string) api.Act {
	return api.Act{Kind: api.ActRead, N: n, M: m, Other: name, Text: text}
}

func flaw(name string, id, why int) api.Flaw { return api.Flaw{Type: name, Id: id, Why: why} }

// step: an act, and its whole reply.
type step struct {
	act  api.Act
	want api.Reply
}

func says(a api.Act, n int) step { return step{a, api.Reply{N: n}} }

func tells(a api.Act, n int, text string) step { return step{a, api.Reply{N: n, Text: text}} }

func fails(a api.Act, e api.Errno) step { return step{a, api.Reply{Code: e}} }

func breaks(a api.Act, l ...api.Flaw) step {
	return step{a, api.Reply{Code: api.ErrBreaks, Flaws: l}}
}

func conflicts(a api.Act, l ...api.Flaw) step {
	return step{a, api.Reply{Code: api.ErrConflict, Flaws: l}}
}

// do is each step in turn; of what is refused nothing may stay.
func do(t *testing.T, r *repo.Repo, steps ...step) {
	t.Helper()
	for i, s := range steps {
		commits, refs := r.Commits(), r.Refs()
		got := r.Do(s.act)
		if !sameReply(got, s.want) {
			t.Errorf("%d: %+v: %+v; wanted %+v", i, s.act, got, s.want)
		}
		if got.Code != api.OK && (!sameCommits(commits, r.Commits()) || !slices.Equal(refs, r.Refs())) {
			t.Errorf("%d: %+v: was refused, and changed something", i, s.act)
		}
	}
}

func sameReply(a, b api.Reply) bool {
	return a.Code == b.Code && a.N == b.N && a.Text == b.Text && slices.Equal(a.Flaws, b.Flaws)
}

func sameCommits(a, b []api.Commit) bool {
	return slices.EqualFunc(a, b, func(x, y api.Commit) bool {
		return merge.Same(x.Book, y.Book) && slices.Equal(x.Parents, y.Parents)
	})
}

func wantRefs(t *testing.T, r *repo.Repo, want ...api.Ref) {
	t.Helper()
	if l := r.Refs(); !slices.Equal(l, want) {
		t.Errorf("%+v; wanted %+v", l, want)
	}
}

func ref(name string, n, policy int) api.Ref {
	return api.Ref{Name: name, Commit: n, Policy: policy}
}

// at is a commit of that text and those parents.
func at(t testing.TB, text string, parents ...int) api.Commit {
	t.Helper()
	return api.Commit{Book: parse(t, text), Parents: parents}
}

// line is commits one behind the other.
func line(t testing.TB, texts ...string) []api.Commit {
	t.Helper()
	var l []api.Commit
	for i, s := range texts {
		c := at(t, s)
		if i > 0 {
			c.Parents = []int{i - 1}
		}
		l = append(l, c)
	}
	return l
}

// full is a repo whose name main is at the last of all commits that may be, each of that text.
func full(t *testing.T, text string) *repo.Repo {
	t.Helper()
	r := repo.New()
	for i := range api.MaxCommits {
		do(t, r, says(commit("main", i-1, text), i))
	}
	return r
}

// whole is a copy of a list with its spare room.
func whole[T any](l []T) []T { return append([]T(nil), l[:cap(l)]...) }

// rooms is a copy of all that commits hold, with their spare room.
func rooms(l []api.Commit) []api.Commit {
	out := whole(l)
	for i, c := range out {
		out[i].Parents = whole(c.Parents)
		out[i].Book.Types = whole(c.Book.Types)
		for j, x := range out[i].Book.Types {
			x.Fields, x.Gone, x.Items = whole(x.Fields), whole(x.Gone), whole(x.Items)
			out[i].Book.Types[j] = x
		}
	}
	return out
}

// spoil writes into all memory of commits.
func spoil(l []api.Commit) {
	for _, c := range l {
		for _, x := range c.Book.Types {
			clear(x.Fields[:cap(x.Fields)])
			clear(x.Gone[:cap(x.Gone)])
			clear(x.Items[:cap(x.Items)])
		}
		clear(c.Book.Types[:cap(c.Book.Types)])
		clear(c.Parents[:cap(c.Parents)])
	}
	clear(l[:cap(l)])
}

// unchanged is whether a call leaves commits as they were, their spare room too.
func unchanged(l []api.Commit, call func()) bool {
	before := rooms(l)
	call()
	return reflect.DeepEqual(before, rooms(l))
}
