package repo

import (
	"slices"
	"strings"

	"patternbook/api"
	"patternbook/book"
	"patternbook/merge"
	"patternbook/value"
)

// place is where a name stands among the names, or would.
func (r *Repo) place(name string) (int, bool) {
	return slices.BinarySearchFunc(r.refs, name, func(ref api.Ref, name string) int { return strings.Compare(ref.Name, name) })
}

// ref is the name itself, to be changed where it stands; nil: there is none. It holds until a name is put in or taken out.
func (r *Repo) ref(name string) *api.Ref {
	i, found := r.place(name)
	if !found {
		return nil
	}
	return &r.refs[i]
}

// insert is asked only for a name that is not there.
func (r *Repo) insert(ref api.Ref) {
	i, _ := r.place(ref.Name)
	r.refs = slices.Insert(r.refs, i, ref)
}

// newRef has a text of its own: the caller's may be a piece of a far longer one, which would be kept with it.
func newRef(name string, commit int) api.Ref {
	return api.Ref{Name: strings.Clone(name), Commit: commit, Policy: api.None}
}

// set lets a name be as it is told, if it keeps its policy so.
func (r *Repo) set(ref *api.Ref, to api.Ref) api.Reply {
	if flaws := Breaks(r.commits, to.Commit, to.Policy); len(flaws) > 0 {
		return api.Reply{Code: api.ErrBreaks, Flaws: flaws}
	}
	*ref = to
	return api.Reply{N: to.Commit}
}

// setCommit is set, of the same policy.
func (r *Repo) setCommit(ref *api.Ref, n int) api.Reply {
	to := *ref
	to.Commit = n
	return r.set(ref, to)
}

// add puts a commit in, and its name there. Where the name does not keep its policy the commit is taken out again: it has to be there to be asked.
func (r *Repo) add(ref *api.Ref, b api.Book, parents ...int) api.Reply {
	n := len(r.commits)
	if n >= api.MaxCommits {
		return refused(api.ErrFull)
	}
	r.commits = append(r.commits, api.Commit{Book: b, Parents: parents})
	reply := r.setCommit(ref, n)
	if reply.Code != api.OK {
		r.commits = slices.Delete(r.commits, n, n+1)
	}
	return reply
}

func (r *Repo) commit(a api.Act) api.Reply {
	if !book.Named(a.Name) {
		return refused(api.ErrForm)
	}
	// The book's names are pieces of the text, which has to be the repo's own, as that of newRef.
	b, e := book.Parse(strings.Clone(a.Text))
	if e != api.OK {
		return refused(e)
	}
	ref := r.ref(a.Name)
	if ref == nil {
		return r.firstCommit(a, b)
	}
	if ref.Commit != a.N {
		return refused(api.ErrOld)
	}
	return r.add(ref, b, ref.Commit)
}

// firstCommit is a commit of a name that is not there yet.
func (r *Repo) firstCommit(a api.Act, b api.Book) api.Reply {
	if a.N != -1 {
		return refused(api.ErrOld)
	}
	if len(r.refs) >= api.MaxRefs {
		return refused(api.ErrFull)
	}
	ref := newRef(a.Name, a.N)
	reply := r.add(&ref, b)
	if reply.Code == api.OK {
		r.insert(ref)
	}
	return reply
}

func (r *Repo) branch(a api.Act) api.Reply {
	if !book.Named(a.Name) {
		return refused(api.ErrForm)
	}
	if !has(r.commits, a.N) {
		return refused(api.ErrNone)
	}
	if r.ref(a.Name) != nil {
		return refused(api.ErrTwice)
	}
	if len(r.refs) >= api.MaxRefs {
		return refused(api.ErrFull)
	}
	r.insert(newRef(a.Name, a.N))
	return api.Reply{}
}

// change is any of the acts on a name that has to be there.
func (r *Repo) change(a api.Act) api.Reply {
	ref := r.ref(a.Name)
	switch {
	case ref == nil:
		return refused(api.ErrNone)
	case a.Kind == api.ActDelete:
		return r.remove(a.Name)
	case a.Kind == api.ActProtect:
		return r.protect(ref, a.N)
	case ref.Commit != a.N:
		return refused(api.ErrOld)
	case a.Kind == api.ActMove:
		return r.move(ref, a.M)
	}
	return r.merge(ref, a.Other)
}

func (r *Repo) remove(name string) api.Reply {
	i, _ := r.place(name)
	n := r.refs[i].Commit
	r.refs = slices.Delete(r.refs, i, i+1)
	return api.Reply{N: n}
}

func (r *Repo) protect(ref *api.Ref, policy int) api.Reply {
	if policy < api.None || policy > api.Full {
		return refused(api.ErrRange)
	}
	to := *ref
	to.Policy = policy
	return r.set(ref, to)
}

func (r *Repo) move(ref *api.Ref, n int) api.Reply {
	if !has(r.commits, n) {
		return refused(api.ErrNone)
	}
	return r.setCommit(ref, n)
}

func (r *Repo) merge(ref *api.Ref, name string) api.Reply {
	other := r.ref(name)
	switch {
	case other == nil:
		return refused(api.ErrNone)
	case standsBehind(r.commits, ref.Commit, other.Commit):
		return api.Reply{N: ref.Commit}
	case standsBehind(r.commits, other.Commit, ref.Commit):
		return r.setCommit(ref, other.Commit)
	}
	b, flaws, e := r.merged(ref.Commit, other.Commit)
	if e != api.OK {
		return api.Reply{Code: e, Flaws: flaws}
	}
	return r.add(ref, b, ref.Commit, other.Commit)
}

// merged is what two commits have made of the last one that both stand behind; of an empty book, if there is none.
func (r *Repo) merged(own, other int) (api.Book, []api.Flaw, api.Errno) {
	var was api.Book
	if base := Base(r.commits, own, other); base >= 0 {
		was = r.commits[base].Book
	}
	return merge.Books(was, r.commits[own].Book, r.commits[other].Book)
}

func (r *Repo) show(a api.Act) api.Reply {
	if !has(r.commits, a.N) {
		return refused(api.ErrNone)
	}
	c := r.commits[a.N]
	s, e := book.Print(c.Book)
	if e != api.OK {
		return refused(e)
	}
	return api.Reply{N: len(c.Parents), Text: s}
}

func (r *Repo) read(a api.Act) api.Reply {
	if !has(r.commits, a.N) || !has(r.commits, a.M) {
		return refused(api.ErrNone)
	}
	writer, reader := r.commits[a.N].Book, r.commits[a.M].Book
	// Of the writer only whether it could have written this is asked: what the reader makes of it hangs on the bytes alone.
	if _, e := value.Decode(writer, a.Other, a.Text); e != api.OK {
		return refused(e)
	}
	v, e := value.Decode(reader, a.Other, a.Text)
	if e != api.OK {
		return refused(e)
	}
	s, e := value.Encode(reader, a.Other, v)
	if e != api.OK {
		return refused(e)
	}
	return api.Reply{N: len(v.L), Text: s}
}
