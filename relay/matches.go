package relay

import "handshape/api"

// match is which call has which spot, at times up to a last one, and which calls are to have spots, in ascending order.
type match struct {
	studio
	last   int
	wanted []int
	calls  map[api.Spot]int
}

// match returns a match of all calls, or of the emergencies, which have no spots so far.
func (s studio) match(last int, urgent bool) match {
	m := match{studio: s, last: last, calls: map[api.Spot]int{}}
	for call, ring := range s.Rings {
		if ring.Urgent || !urgent {
			m.wanted = append(m.wanted, call)
		}
	}
	return m
}

// spots returns the spots at which a call can be answered, the first time first.
func (m match) spots(call int) []api.Spot {
	var l []api.Spot
	for time := range m.last + 1 {
		for signer := range m.Signers {
			spot := api.Spot{Signer: signer, Time: time}
			if m.canAnswer(spot, call) {
				l = append(l, spot)
			}
		}
	}
	return l
}

// answers returns the answer to each call.
func (m match) answers() []api.Answer {
	l := make([]api.Answer, len(m.Rings))
	for call := range l {
		l[call] = never
	}
	for spot, call := range m.calls {
		l[call] = api.Answer{Time: spot.Time, Signer: spot.Signer}
	}
	return l
}

// most returns a match in which as many calls have spots as can.
func (s studio) most(last int, urgent bool) match {
	m := s.match(last, urgent)
	for _, call := range m.wanted {
		m.seat(call)
	}
	return m
}

// seat gives a call a spot, if those that have spots can make room for it by taking others. A call for which there is no room now finds none later, either.
func (m match) seat(call int) {
	tried := map[api.Spot]bool{}
	var take func(call int) bool
	take = func(call int) bool {
		for _, spot := range m.spots(call) {
			if tried[spot] {
				continue
			}
			tried[spot] = true
			holder, taken := m.calls[spot]
			if !taken || take(holder) {
				m.calls[spot] = call
				return true
			}
		}
		return false
	}
	take(call)
}

// cover returns as many spots and calls as the match has, which has as many as can be: one of each spot and its call. A call that is not in the cover needs all spots that can answer it there, so that their calls need not be. The spots are in the order of their signers, then of their times.
func (m match) cover() (spots []api.Spot, calls []int) {
	covered, free := map[api.Spot]bool{}, map[int]bool{}
	var leave func(call int)
	leave = func(call int) {
		free[call] = true
		for _, spot := range m.spots(call) {
			if !covered[spot] {
				covered[spot] = true
				leave(m.calls[spot])
			}
		}
	}
	answers := m.answers()
	for _, call := range m.wanted {
		if answers[call] == never {
			leave(call)
		}
	}
	for _, call := range m.wanted {
		if !free[call] {
			calls = append(calls, call)
		}
	}
	for signer := range m.Signers {
		for time := range m.last + 1 {
			if spot := (api.Spot{Signer: signer, Time: time}); covered[spot] {
				spots = append(spots, spot)
			}
		}
	}
	return spots, calls
}
