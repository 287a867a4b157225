package relay

import (
	"slices"

	"handshape/api"
)

// plan returns best answers.
func (s studio) plan() []api.Answer {
	m := s.match(s.Times-1, false)
	for _, call := range m.wanted {
		m.add(call)
	}
	return m.answers()
}

// move is that a call takes a spot.
type move struct {
	call int
	spot api.Spot
}

// chain is moves of which each one takes the spot of the call that moves next, and for how much longer all calls wait then.
type chain struct {
	moves []move
	more  waiting
}

// then returns the chain with one more move. Several chains can begin alike, so that each has memory of its own.
func (c chain) then(x move, more waiting) chain {
	return chain{append(slices.Clone(c.moves), x), c.more.plus(more)}
}

// add gives a call a spot, or none, such that it and all that were added before wait least. One chain of moves is enough, which ends with a spot that nobody had, or with a call that is never answered: whatever could be moved beside it, so that somebody waits less, could have been moved before.
func (m match) add(call int) {
	best := chain{more: m.wait(call, m.Times)}
	offer := func(c chain) {
		if c.more.less(best.more) {
			best = c
		}
	}
	reached := map[int]waiting{}
	var reach func(call int, c chain)
	reach = func(call int, c chain) {
		if before, known := reached[call]; known && !c.more.less(before) {
			return
		}
		reached[call] = c.more
		offer(chain{c.moves, c.more.plus(m.wait(call, m.Times))})
		for _, spot := range m.spots(call) {
			next := c.then(move{call, spot}, m.wait(call, spot.Time))
			if holder, taken := m.calls[spot]; taken {
				next.more = next.more.minus(m.wait(holder, spot.Time))
				reach(holder, next)
			} else {
				offer(next)
			}
		}
	}
	reach(call, chain{})
	for _, x := range best.moves {
		m.calls[x.spot] = x.call
	}
}

// least is the urgent waiting of the best answers.
func (s studio) least() int { return s.waits(s.plan()).urgent }

// vital returns the signers without whom the best answers have a greater urgent waiting, in ascending order.
func (s studio) vital() []int {
	var l []int
	least := s.least()
	for signer := range s.Signers {
		if s.without(signer).least() > least {
			l = append(l, signer)
		}
	}
	return l
}

// without returns the studio with one of its signers who signs no language.
func (s studio) without(signer int) studio {
	s.Signers = slices.Clone(s.Signers)
	s.Signers[signer].Tongues = 0
	return s
}

// free returns the times at which one more emergency with a language would not lead to a greater urgent waiting, in ascending order.
func (s studio) free(tongue int) []int {
	var l []int
	least := s.least()
	for time := range s.Times {
		if s.with(api.Ring{Tongue: tongue, At: time, Urgent: true}).least() == least {
			l = append(l, time)
		}
	}
	return l
}

// with returns the studio with one more call.
func (s studio) with(call api.Ring) studio {
	s.Rings = append(slices.Clone(s.Rings), call)
	return s
}
