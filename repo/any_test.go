package repo_test

import (
	"maps"
	"math/rand"
	"slices"
	"testing"

	"patternbook/api"
	"patternbook/book"
	"patternbook/compat"
	"patternbook/merge"
	"patternbook/repo"
	"patternbook/value"
)

// Against a plain reckoning: names in a map, what a commit stands behind as a set, each act written down from the chapter, errors in one list.

type plain struct {
	commits []api.Commit
	refs    map[string]api.Ref
	acts    int
}

func newPlain() *plain { return &plain{refs: map[string]api.Ref{}} }

// plainBehind is gone through until nothing comes to it any more.
func plainBehind(l []api.Commit, n int) map[int]bool {
	if n < 0 || n >= len(l) {
		return nil
	}
	set := map[int]bool{n: true}
	for size := 0; size != len(set); {
		size = len(set)
		for _, c := range rising(set) {
			for _, p := range l[c].Parents {
				if p >= 0 && p < c {
					set[p] = true
				}
			}
		}
	}
	return set
}

func rising(set map[int]bool) []int { return slices.Sorted(maps.Keys(set)) }

func plainBase(l []api.Commit, a, b int) int {
	base := -1
	for n := range plainBehind(l, a) {
		if plainBehind(l, b)[n] {
			base = max(base, n)
		}
	}
	return base
}

// plainBreaks is all that a policy finds, in order, of which the first counts.
func plainBreaks(l []api.Commit, n, policy int) []api.Flaw {
	all := [][]api.Flaw{nil}
	for _, c := range rising(plainBehind(l, n)) {
		for _, a := range rising(plainBehind(l, c)) {
			for _, x := range l[a].Book.Types {
				back, _ := compat.Flaws(l[a].Book, l[c].Book, x.Name)
				forth, _ := compat.Flaws(l[c].Book, l[a].Book, x.Name)
				if a != c && policy&api.Backward != 0 {
					all = append(all, back)
				}
				if a != c && policy&api.Forward != 0 {
					all = append(all, forth)
				}
			}
		}
	}
	all = slices.DeleteFunc(all, func(flaws []api.Flaw) bool { return len(flaws) == 0 })
	return append(all, nil)[0]
}

// rule: an error, and whether it holds.
type rule struct {
	holds bool
	e     api.Errno
}

func first(l ...rule) api.Errno {
	for _, x := range l {
		if x.holds {
			return x.e
		}
	}
	return api.OK
}

func (p *plain) has(n int) bool { return n >= 0 && n < len(p.commits) }

func (p *plain) do(a api.Act) api.Reply {
	if p.acts == api.MaxActs {
		return api.Reply{Code: api.ErrFull}
	}
	p.acts++
	ref, there := p.refs[a.Name]
	other, hasOther := p.refs[a.Other]
	parsed, e := book.Parse(a.Text)
	fullRefs, old := len(p.refs) == api.MaxRefs, rule{ref.Commit != a.N, api.ErrOld}
	lacks, lacksM := rule{!p.has(a.N), api.ErrNone}, rule{!p.has(a.M), api.ErrNone}
	notNamed, lacksName := rule{!book.Named(a.Name), api.ErrForm}, rule{!there, api.ErrNone}
	var l []rule
	switch a.Kind {
	case api.ActCommit:
		if l = []rule{notNamed, {e != api.OK, e}, {a.N != -1, api.ErrOld}, {fullRefs, api.ErrFull}}; there {
			l = []rule{notNamed, {e != api.OK, e}, old}
		}
	case api.ActBranch:
		l = []rule{notNamed, lacks, {there, api.ErrTwice}, {fullRefs, api.ErrFull}}
	case api.ActProtect:
		l = []rule{lacksName, {a.N < 0 || a.N > 3, api.ErrRange}}
	case api.ActMerge:
		l = []rule{lacksName, old, {!hasOther, api.ErrNone}}
	case api.ActMove:
		l = []rule{lacksName, old, lacksM}
	case api.ActDelete:
		l = []rule{lacksName}
	case api.ActShow:
		l = []rule{lacks}
	case api.ActRead:
		l = []rule{lacks, lacksM}
	default:
		l = []rule{{true, api.ErrKind}}
	}
	if e := first(l...); e != api.OK {
		return api.Reply{Code: e}
	}
	return p.done(a, parsed, ref, other)
}

// done is an act that is not refused at once.
func (p *plain) done(a api.Act, b api.Book, ref, other api.Ref) api.Reply {
	switch a.Kind {
	case api.ActCommit:
		if _, there := p.refs[a.Name]; there {
			return p.add(ref, b, ref.Commit)
		}
		return p.add(api.Ref{Name: a.Name}, b)
	case api.ActBranch:
		p.refs[a.Name] = api.Ref{Name: a.Name, Commit: a.N}
		return api.Reply{}
	case api.ActProtect:
		return p.put(p.commits, api.Ref{Name: a.Name, Commit: ref.Commit, Policy: a.N})
	case api.ActMove:
		return p.put(p.commits, api.Ref{Name: a.Name, Commit: a.M, Policy: ref.Policy})
	case api.ActDelete:
		delete(p.refs, a.Name)
		return api.Reply{N: ref.Commit}
	case api.ActMerge:
		return p.merge(ref, other)
	case api.ActShow:
		s, e := book.Print(p.commits[a.N].Book)
		return api.Reply{Code: e, Text: s, N: len(p.commits[a.N].Parents)}
	}
	_, e := value.Decode(p.commits[a.N].Book, a.Other, a.Text)
	v, f := value.Decode(p.commits[a.M].Book, a.Other, a.Text)
	s, g := value.Encode(p.commits[a.M].Book, a.Other, v)
	if e := first(rule{e != api.OK, e}, rule{f != api.OK, f}, rule{g != api.OK, g}); e != api.OK {
		return api.Reply{Code: e}
	}
	return api.Reply{Text: s, N: len(v.L)}
}

func (p *plain) put(l []api.Commit, to api.Ref) api.Reply {
	if flaws := plainBreaks(l, to.Commit, to.Policy); len(flaws) > 0 {
		return api.Reply{Code: api.ErrBreaks, Flaws: flaws}
	}
	p.commits, p.refs[to.Name] = l, to
	return api.Reply{N: to.Commit}
}

func (p *plain) add(ref api.Ref, b api.Book, parents ...int) api.Reply {
	if len(p.commits) == api.MaxCommits {
		return api.Reply{Code: api.ErrFull}
	}
	ref.Commit = len(p.commits)
	return p.put(append(slices.Clip(p.commits), api.Commit{Book: b, Parents: parents}), ref)
}

func (p *plain) merge(ref, other api.Ref) api.Reply {
	if plainBehind(p.commits, ref.Commit)[other.Commit] {
		return api.Reply{N: ref.Commit}
	}
	if plainBehind(p.commits, other.Commit)[ref.Commit] {
		return p.put(p.commits, api.Ref{Name: ref.Name, Commit: other.Commit, Policy: ref.Policy})
	}
	was := api.Book{}
	if base := plainBase(p.commits, ref.Commit, other.Commit); base != -1 {
		was = p.commits[base].Book
	}
	b, flaws, e := merge.Books(was, p.commits[ref.Commit].Book, p.commits[other.Commit].Book)
	if e != api.OK {
		return api.Reply{Code: e, Flaws: flaws}
	}
	return p.add(ref, b, ref.Commit, other.Commit)
}

func (p *plain) allRefs() []api.Ref {
	var l []api.Ref
	for _, name := range slices.Sorted(maps.Keys(p.refs)) {
		l = append(l, p.refs[name])
	}
	return l
}

func pick[T any](r *rand.Rand, l ...T) T { return l[r.Intn(len(l))] }

// mostly is the first one in two of three.
func mostly(r *rand.Rand, usual string, others ...string) string {
	if r.Intn(3) > 0 {
		return usual
	}
	return pick(r, others...)
}

// anyText is mostly that of a book, one of few, so that many of them read each other.
func anyText(r *rand.Rand) string {
	a := mostly(r, "1 one int x;", "", "1 maybe int x;", "1 many int x;", "1 one bool x;", "1 one text x;", "gone 1;", "1 one e x;", "1 maybe b x;")
	a += mostly(r, "", "2 one int y;", "2 one text y;", "2 many e y;", "2 maybe a y;", "gone 2;")
	a += mostly(r, "", "3 one bool z;", "3 maybe int z;", "3 many b z;", "3 one int x;", "3 one int y;", "3 five z;")
	s := "message a{" + a + "}" + mostly(r, "enum e{0 p;1 q;}", "enum e{0 p;}", "enum e{0 q;2 p;}", "enum e{0 p;1 q;3 q;}", "message e{}")
	return s + mostly(r, "", "message b{}", "message b{1 one int x;}", "message b{1 one text x;}", "message b{1 one e x;}", "message b{1 one b x;}")
}

// anyName is mostly one that is there.
func (p *plain) anyName(r *rand.Rand) string {
	if len(p.refs) > 0 && r.Intn(3) > 0 {
		return pick(r, p.allRefs()...).Name
	}
	return pick(r, "main", "main", "main", "side", "side", "b", "c", "old", "q", "z", "zz", "Main")
}

// anyNumber is mostly where the name is, or else near the numbers of commits.
func (p *plain) anyNumber(r *rand.Rand, name string) int {
	if ref, there := p.refs[name]; there && r.Intn(8) > 0 {
		return ref.Commit
	}
	return pick(r, -1, -1, -1, r.Intn(len(p.commits)+1), r.Intn(len(p.commits)+1))
}

func (p *plain) anyAct(r *rand.Rand) api.Act {
	a := api.Act{Name: p.anyName(r), Other: p.anyName(r), Text: anyText(r), M: r.Intn(len(p.commits)+2) - 1}
	a.N = p.anyNumber(r, a.Name)
	a.Kind = pick(r, 0, 1, 1, 1, 1, 1, 1, 2, 2, 3, 4, 4, 4, 4, 5, 6, 7, 8)
	switch a.Kind {
	case api.ActBranch:
		a.N, a.Name = r.Intn(len(p.commits)+2)-1, pick(r, "main", "a", "b", "c", "old", "q", "z", "zz", "Main")
	case api.ActProtect:
		a.N = pick(r, -1, 0, 1, 1, 2, 2, 3, 3, 4)
	case api.ActRead:
		a.N, a.Other = r.Intn(len(p.commits)+2)-1, pick(r, "a", "a", "a", "b", "e")
		a.Text = pick(r, "", "\x04\x02", "\x04\x06", "\x05\x01a", "\x04\x02\x08\x02", "\x04\x02\x04\x00\x08\x00", "\x06\x00", "\x09\x02hi\x0c\x02", "\x08", "\x0a\x02\x04\x02")
	}
	return a
}

func TestAnyActs(t *testing.T) {
	type end struct {
		kind int
		e    api.Errno
	}
	seen := map[end]int{}
	for seed := range int64(250) {
		r := rand.New(rand.NewSource(seed))
		p, q := newPlain(), repo.New()
		var acts []api.Act
		var replies []api.Reply
		for range api.MaxActs {
			a := p.anyAct(r)
			want, got := p.do(a), q.Do(a)
			if !sameReply(got, want) {
				t.Fatalf("%d, %d: %+v: %+v; wanted %+v", seed, len(acts), a, got, want)
			}
			if !sameCommits(q.Commits(), p.commits) || !slices.Equal(q.Refs(), p.allRefs()) {
				t.Fatalf("%d, %d: %+v: %+v, %+v", seed, len(acts), a, q.Commits(), q.Refs())
			}
			acts, replies = append(acts, a), append(replies, got)
			seen[end{a.Kind, got.Code}]++
		}
		if l, e := repo.Run(acts); e != api.OK || !slices.EqualFunc(l, replies, sameReply) {
			t.Fatalf("%d: Run: %+v, %d", seed, l, e)
		}
	}
	// Else this would tell little.
	for kind, l := range map[int][]api.Errno{
		api.ActCommit:  {api.OK, api.ErrForm, api.ErrOld, api.ErrFull, api.ErrBreaks},
		api.ActBranch:  {api.OK, api.ErrForm, api.ErrNone, api.ErrTwice, api.ErrFull},
		api.ActProtect: {api.OK, api.ErrNone, api.ErrRange, api.ErrBreaks},
		api.ActMerge:   {api.OK, api.ErrNone, api.ErrOld, api.ErrConflict, api.ErrForm, api.ErrFull, api.ErrBreaks},
		api.ActMove:    {api.OK, api.ErrNone, api.ErrOld, api.ErrBreaks},
		api.ActDelete:  {api.OK, api.ErrNone},
		api.ActShow:    {api.OK, api.ErrNone},
		api.ActRead:    {api.OK, api.ErrNone, api.ErrForm, api.ErrWire, api.ErrTwice, api.ErrItem},
		0:              {api.ErrKind},
	} {
		for _, e := range l {
			if seen[end{kind, e}] < 20 {
				t.Errorf("of kind %d, %d: only %d", kind, e, seen[end{kind, e}])
			}
		}
	}
}

// anyCommits have parents of all sorts.
func anyCommits(r *rand.Rand, texts ...api.Book) []api.Commit {
	var l []api.Commit
	for i := range r.Intn(9) {
		c := api.Commit{Book: pick(r, texts...)}
		for range r.Intn(4) {
			c.Parents = append(c.Parents, pick(r, r.Intn(i+1), r.Intn(i+1), r.Intn(i+1), i, i+1, -1, i-1))
		}
		l = append(l, c)
	}
	return l
}

func TestAnyCommits(t *testing.T) {
	r := rand.New(rand.NewSource(6))
	bad := api.Book{Types: []api.Type{{Name: "a"}, {Name: "a"}}}
	books := []api.Book{{}, bad}
	for len(books) < 40 {
		if b, e := book.Parse(anyText(r)); e == api.OK {
			books = append(books, b)
		}
	}
	broken := 0
	for range 3000 {
		l := anyCommits(r, books...)
		for n := -1; n <= len(l); n++ {
			if got, want := repo.Behind(l, n), rising(plainBehind(l, n)); !slices.Equal(got, want) {
				t.Fatalf("%+v, %d: %v; wanted %v", l, n, got, want)
			}
			m := r.Intn(len(l)+2) - 1
			if got, want := repo.Base(l, n, m), plainBase(l, n, m); got != want {
				t.Fatalf("%+v, %d, %d: %d; wanted %d", l, n, m, got, want)
			}
			policy := r.Intn(4)
			got, want := repo.Breaks(l, n, policy), plainBreaks(l, n, policy)
			if !slices.Equal(got, want) {
				t.Fatalf("%+v, %d, %d: %+v; wanted %+v", l, n, policy, got, want)
			}
			broken += len(got)
		}
	}
	if broken < 100 {
		t.Errorf("only %d", broken)
	}
}
