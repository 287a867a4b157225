package cover

import (
	"slices"

	"handshape/api"
)

// pool is a pool that has been checked.
type pool struct{ api.Pool }

// read returns ErrPool, or the pool that has been checked.
func read(p api.Pool) (pool, api.Errno) {
	if !validPool(p) {
		return pool{}, api.ErrPool
	}
	return pool{p}, api.OK
}

// readWatch returns the first error of a pool and a watch, or the pool and the group of each slot.
func readWatch(p api.Pool, watch []int) (pool, []group, api.Errno) {
	x, e := read(p)
	if e != api.OK {
		return pool{}, nil, e
	}
	groups := make([]group, len(watch))
	for i, set := range watch {
		groups[i] = group(set)
	}
	if !x.isPossible(groups) {
		return pool{}, nil, api.ErrWatch
	}
	return x, groups, api.OK
}

// readSlot returns the first error of a pool and one of its slots, or the pool.
func readSlot(p api.Pool, slot int) (pool, api.Errno) {
	x, e := read(p)
	if e != api.OK {
		return pool{}, e
	}
	if !x.hasSlot(slot) {
		return pool{}, api.ErrArg
	}
	return x, api.OK
}

func within(n, low, high int) bool { return low <= n && n <= high }

// allOf reports whether a slice has from least to most elements, and all of them are valid.
func allOf[T any](l []T, least, most int, valid func(T) bool) bool {
	return within(len(l), least, most) && !slices.ContainsFunc(l, func(x T) bool { return !valid(x) })
}

// isSet reports whether a number is a set of some of so many elements.
func isSet(n, elements int) bool { return within(n, 0, 1<<elements-1) }

func validPool(p api.Pool) bool {
	validNeed := func(n int) bool { return within(n, 0, api.MaxAsk) }
	validRow := func(l []int) bool {
		return len(l) == len(p.Needs[0]) && allOf(l, 1, api.MaxTongues, validNeed)
	}
	if !allOf(p.Needs, 1, api.MaxSlots, validRow) {
		return false
	}
	validFolk := func(x api.Folk) bool {
		return isSet(x.Tongues, len(p.Needs[0])) && isSet(x.Slots, len(p.Needs)) && within(x.Pay, 0, api.MaxPay)
	}
	return allOf(p.Folk, 1, api.MaxFolk, validFolk) && within(p.Ill, 0, api.MaxIll) && within(p.Most, 0, api.MaxSlots)
}

func (p pool) hasSlot(slot int) bool { return within(slot, 0, len(p.Needs)-1) }

// able returns all who can be on call in a slot.
func (p pool) able(slot int) group {
	var g group
	for person, x := range p.Folk {
		if x.Slots>>slot&1 == 1 {
			g |= 1 << person
		}
	}
	return g
}

// isPossible reports whether groups are one for each slot, of people who can be on call in it, none of them in too many slots.
func (p pool) isPossible(watch []group) bool {
	if len(watch) != len(p.Needs) {
		return false
	}
	for slot, g := range watch {
		if !p.able(slot).includes(g) {
			return false
		}
	}
	for person := range p.Folk {
		times := 0
		for _, g := range watch {
			if g.has(person) {
				times++
			}
		}
		if times > p.Most {
			return false
		}
	}
	return true
}
