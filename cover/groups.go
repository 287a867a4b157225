package cover

import (
	"math/bits"

	"handshape/api"
)

// group is a set of people.
type group int

func (g group) has(person int) bool { return g>>person&1 == 1 }

func (g group) includes(other group) bool { return other&^g == 0 }

func (g group) size() int { return bits.OnesCount(uint(g)) }

// subgroups yields all groups within a group, those with lower numbers first: the first one is empty, the last one is the group itself.
func (g group) subgroups(yield func(group) bool) {
	sub := group(0)
	for yield(sub) && sub != g {
		// the bits that are not in the group carry over, so that this is the next number without them
		sub = (sub - g) & g
	}
}

// cost returns what a slot with a group costs.
func (p pool) cost(g group) int {
	sum := 0
	for person, x := range p.Folk {
		if g.has(person) {
			sum += x.Pay
		}
	}
	return sum
}

// needed returns how many people are needed in a slot for some languages together.
func (p pool) needed(slot, tongues int) int {
	sum := 0
	for tongue, n := range p.Needs[slot] {
		if tongues>>tongue&1 == 1 {
			sum += n
		}
	}
	return sum
}

// missing returns how many more people are needed in a slot for some languages together than people of a group have some of them; it is below 0 if there are people to spare.
func (p pool) missing(slot int, g group, tongues int) int {
	n := p.needed(slot, tongues)
	for person, x := range p.Folk {
		if g.has(person) && x.Tongues&tongues != 0 {
			n--
		}
	}
	return n
}

// ready returns how many of a group can be ill in a slot, whichever they are; -1 if the group does not serve its needs. By Hall's theorem a group serves them exactly if nobody is missing for any languages, and in the worst case all who are ill have some of the same ones. For languages that nobody needs all can be ill.
func (p pool) ready(slot int, g group) int {
	ready := g.size()
	for tongues := range 1 << len(p.Needs[slot]) {
		if p.needed(slot, tongues) > 0 {
			ready = min(ready, -p.missing(slot, g, tongues))
		}
	}
	return max(ready, -1)
}

// isCovered reports whether a slot is covered with a group.
func (p pool) isCovered(slot int, g group) bool {
	return p.ready(slot, g) >= min(p.Ill, g.size())
}

// covering returns the groups with which a slot is covered, in ascending order, but none of those that include others: these cost no less, and have greater numbers.
func (p pool) covering(slot int) []group {
	var l []group
groups:
	for g := range p.able(slot).subgroups {
		for _, fewer := range l {
			if g.includes(fewer) {
				continue groups
			}
		}
		if p.isCovered(slot, g) {
			l = append(l, g)
		}
	}
	return l
}

func (p pool) isSafe(watch []group) bool {
	for slot, g := range watch {
		if !p.isCovered(slot, g) {
			return false
		}
	}
	return true
}

// weakest returns the first of the gaps in which the most are missing, or one in which nobody is if there are none.
func (p pool) weakest(watch []group) api.Gap {
	var gap api.Gap
	for slot, g := range watch {
		for ill := range g.subgroups {
			if ill.size() > p.Ill {
				continue
			}
			for tongues := range 1 << len(p.Needs[slot]) {
				if n := p.missing(slot, g&^ill, tongues); n > gap.Missing {
					gap = api.Gap{Slot: slot, Ill: int(ill), Tongues: tongues, Missing: n}
				}
			}
		}
	}
	return gap
}

// missed returns, for each person, how many slots are covered, but would not be without the person.
func (p pool) missed(watch []group) []int {
	times := make([]int, len(p.Folk))
	for slot, g := range watch {
		if !p.isCovered(slot, g) {
			continue
		}
		for person := range p.Folk {
			if !p.isCovered(slot, g&^(1<<person)) {
				times[person]++
			}
		}
	}
	return times
}
