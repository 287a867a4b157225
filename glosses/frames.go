package glosses

import (
	"math/bits"
	"slices"

	"handshape/api"
)

// at returns the glosses that hold and contain a frame: at most one of each author.
func (n notes) at(film, frame int) []api.Gloss {
	return pick(n.held, func(x api.Gloss) bool {
		return x.Film == film && x.From <= frame && frame < x.To
	})
}

// readings returns the sets with the fewest signs that agree with all of some glosses that hold, in ascending order. There is always one, since the set of all signs agrees with each gloss that holds.
func (n notes) readings(l []api.Gloss) []int {
	var sets []int
	fewest := n.Signs
	for set := range 1 << n.Signs {
		size := count(set)
		if size > fewest || !agrees(set, l) {
			continue
		}
		if size < fewest {
			sets, fewest = nil, size
		}
		sets = append(sets, set)
	}
	return sets
}

func count(set int) int { return bits.OnesCount(uint(set)) }

func agrees(set int, l []api.Gloss) bool {
	nothing := func(x api.Gloss) bool { return x.Signs&set == 0 }
	return !slices.ContainsFunc(l, nothing)
}

// size returns how many signs a set has at least that agrees with all of some glosses that hold.
func (n notes) size(l []api.Gloss) int { return count(n.readings(l)[0]) }

// proof returns the fewest of some glosses, and of several choices the first one, that need as many signs as all of them. It tries all choices: a frame has at most one gloss of each author, so that there are few.
func (n notes) proof(l []api.Gloss) []api.Gloss {
	size, best := n.size(l), l
	for choice := range 1 << len(l) {
		chosen := subset(l, choice)
		if before(chosen, best) && n.size(chosen) == size {
			best = chosen
		}
	}
	return best
}

// subset returns the glosses whose positions are in a set.
func subset(l []api.Gloss, positions int) []api.Gloss {
	var chosen []api.Gloss
	for i, x := range l {
		if positions>>i&1 == 1 {
			chosen = append(chosen, x)
		}
	}
	return chosen
}

// before reports whether a choice has fewer glosses than another one, or as many, but ones that come first.
func before(a, b []api.Gloss) bool {
	if len(a) != len(b) {
		return len(a) < len(b)
	}
	return slices.CompareFunc(a, b, inOrder) < 0
}
