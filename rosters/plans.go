package rosters

import (
	"cmp"
	"slices"
)

// offer is some people who can be added to the team of a booking, and their fee.
type offer struct{ people, fee int }

// offers returns all sets of free people who make the team of a booking fit its job if they are added to it, in ascending order.
func (r roster) offers(booking int) []offer {
	var l []offer
	free, team := r.free(booking), r.teams()[booking]
	for people := range free + 1 {
		if people&^free == 0 && r.fits(booking, team|people) {
			l = append(l, offer{people, r.fee(people)})
		}
	}
	return l
}

// cheapest returns the first one of some offers with the least fee.
func cheapest(l []offer) offer {
	return slices.MinFunc(l, func(x, y offer) int { return cmp.Compare(x.fee, y.fee) })
}

// search puts teams on a roster, booking after booking, and keeps the cheapest ones for all bookings that it has found.
type search struct {
	roster
	choices [][]offer
	// least is, for each number of bookings that have their teams, the least fee that all others can have.
	least   []int
	found   bool
	best    []int
	bestFee int
}

// plan returns the cheapest teams for all bookings and their fee, if there are some; nobody may be put on a booking so far. Teams are tried in ascending order, so that of several equal choices the first one counts.
func (r roster) plan() (teams []int, fee int, found bool) {
	s := search{roster: r, least: make([]int, len(r.Bookings)+1)}
	for booking := range r.Bookings {
		s.choices = append(s.choices, r.offers(booking))
	}
	for booking, l := range slices.Backward(s.choices) {
		if len(l) == 0 {
			return nil, 0, false
		}
		s.least[booking] = s.least[booking+1] + cheapest(l).fee
	}
	s.extend(0, 0)
	return s.best, s.bestFee, s.found
}

// extend puts teams on all bookings from one on, in all ways that can be cheaper than the best one so far; the teams of the bookings before cost a fee.
func (s *search) extend(booking, fee int) {
	if booking == len(s.Bookings) {
		s.found, s.best, s.bestFee = true, s.teams(), fee
		return
	}
	before, free := s.roster, s.free(booking)
	for _, x := range s.choices[booking] {
		dear := s.found && fee+x.fee+s.least[booking+1] >= s.bestFee
		if dear || x.people&^free != 0 {
			continue
		}
		s.roster = before.put(x.people, booking)
		s.extend(booking+1, fee+x.fee)
	}
}
