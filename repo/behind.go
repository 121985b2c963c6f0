package repo

import (
	"slices"

	"patternbook/api"
	"patternbook/compat"
)

// Behind is the commits that one stands behind, itself too, by number.
func Behind(l []api.Commit, n int) []int {
	if !has(l, n) {
		return nil
	}
	reached := make([]bool, n+1)
	reached[n] = true
	var behind []int
	// From the greatest down: whatever leads to a commit is greater, and so was gone through ahead of it.
	for c := n; c >= 0; c-- {
		if !reached[c] {
			continue
		}
		behind = append(behind, c)
		for _, parent := range l[c].Parents {
			if parent >= 0 && parent < c {
				reached[parent] = true
			}
		}
	}
	slices.Reverse(behind)
	return behind
}

func has(l []api.Commit, n int) bool { return n >= 0 && n < len(l) }

// standsBehind is whether n stands behind c.
func standsBehind(l []api.Commit, n, c int) bool {
	_, found := slices.BinarySearch(Behind(l, n), c)
	return found
}

// Base is the last commit that two stand behind; -1: there is none.
func Base(l []api.Commit, a, b int) int {
	base := -1
	ofB := Behind(l, b)
	for _, n := range Behind(l, a) {
		if _, found := slices.BinarySearch(ofB, n); found {
			base = n
		}
	}
	return base
}

// Breaks is what a policy finds in all that stands behind a commit: of the first two commits, one behind the other, of which one cannot be read as it must be; none: it keeps.
func Breaks(l []api.Commit, n, policy int) []api.Flaw {
	if policy < api.Backward || policy > api.Full {
		return nil
	}
	for _, c := range Behind(l, n) {
		for _, a := range Behind(l, c) {
			if a == c {
				continue
			}
			if flaws := between(l[a].Book, l[c].Book, policy); len(flaws) > 0 {
				return flaws
			}
		}
	}
	return nil
}

// between is what a policy finds of an elder book and a later one: of the first type that has flaws, those of the first way in which they must be read.
func between(elder, later api.Book, policy int) []api.Flaw {
	for _, t := range elder.Types {
		if policy == api.Backward || policy == api.Full {
			if flaws, _ := compat.Flaws(elder, later, t.Name); len(flaws) > 0 {
				return flaws
			}
		}
		if policy == api.Forward || policy == api.Full {
			if flaws, _ := compat.Flaws(later, elder, t.Name); len(flaws) > 0 {
				return flaws
			}
		}
	}
	return nil
}
