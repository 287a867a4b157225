package turns

import (
	"cmp"
	"slices"
)

// right reports whether a rota is right.
func (t task) right(rota []int) bool {
	for part, hand := range rota {
		if !t.maySign(rota[:part], hand) {
			return false
		}
	}
	return true
}

// maySign reports whether a hand may sign in the part after some first ones, which are right.
func (t task) maySign(first []int, hand int) bool {
	rests := 0
	for rests < len(first) && first[len(first)-1-rests] != hand {
		rests++
	}
	if rests > 0 {
		return rests == len(first) || rests >= t.Rest
	}
	other := func(n int) bool { return n != hand }
	return len(first) < t.Limit || slices.ContainsFunc(first[len(first)-t.Limit:], other)
}

// plan returns the right rota with the fewest worst mistakes, and these; nil if no rota is right. Rotas are built in ascending order, so that of several equal ones the first one counts.
func (t task) plan() (rota []int, worst int) {
	c := t.worst()
	var build func(first []int, s state)
	build = func(first []int, s state) {
		// No part takes mistakes back.
		if rota != nil && s.mistakes >= worst {
			return
		}
		if len(first) == len(t.Parts) {
			rota, worst = slices.Clone(first), s.mistakes
			return
		}
		for hand := range t.Hands {
			if t.maySign(first, hand) {
				build(append(first, hand), c.sign(s, hand))
			}
		}
	}
	build(make([]int, 0, len(t.Parts)), c.begin())
	return rota, worst
}

// choice is some hands, in ascending order, and the worst mistakes of their plan.
type choice struct {
	hands []int
	worst int
}

// before reports whether a choice is to be taken rather than another one.
func (x choice) before(y choice) bool {
	size := cmp.Compare(len(x.hands), len(y.hands))
	return cmp.Or(size, cmp.Compare(x.worst, y.worst), slices.Compare(x.hands, y.hands)) < 0
}

// fewest returns the fewest hands whose plan has worst mistakes of at most some number, nil if there are none.
func (t task) fewest(most int) []int {
	var best choice
	for set := 1; set < 1<<len(t.Hands); set++ {
		x := choice{hands: elements(set)}
		var rota []int
		rota, x.worst = t.only(x.hands).plan()
		if rota == nil || x.worst > most {
			continue
		}
		if best.hands == nil || x.before(best) {
			best = x
		}
	}
	return best.hands
}

// elements returns the elements of a set, in ascending order.
func elements(set int) []int {
	var l []int
	for i := 0; set>>i > 0; i++ {
		if set>>i&1 == 1 {
			l = append(l, i)
		}
	}
	return l
}
