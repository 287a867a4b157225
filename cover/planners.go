package cover

import "handshape/api"

// planner finds the best watches for the slots from one on: for each slot it has the groups that are worth trying, and it keeps what it has found, as many beginnings of a watch leave the same people.
type planner struct {
	pool
	groups [][]group
	known  map[rest]plan
}

// rest is a slot, and in how many of the slots from this one on each person may be on call.
type rest struct {
	slot int
	left [api.MaxFolk]int
}

// plan is a watch for the slots from one on (the groups before it are empty), and what it costs; it is not safe if there is no safe watch.
type plan struct {
	groups [api.MaxSlots]group
	cost   int
	safe   bool
}

// plan returns the best watch of a pool.
func (p pool) plan() plan {
	x := planner{pool: p, known: map[rest]plan{}}
	for slot := range p.Needs {
		x.groups = append(x.groups, p.covering(slot))
	}
	var all rest
	for person := range p.Folk {
		all.left[person] = p.Most
	}
	return x.best(all)
}

// best returns the safe watch with the least cost for the slots that are left, of several the one with the lower group in the first slot in which they differ.
func (p planner) best(r rest) plan {
	if r.slot == len(p.Needs) {
		return plan{safe: true}
	}
	if w, known := p.known[r]; known {
		return w
	}
	var best plan
	for _, g := range p.groups[r.slot] {
		next, ok := p.after(r, g)
		if !ok {
			continue
		}
		w := p.best(next)
		w.groups[r.slot] = g
		w.cost += p.cost(g)
		if w.safe && (!best.safe || w.cost < best.cost) {
			best = w
		}
	}
	p.known[r] = best
	return best
}

// after returns what is left after a slot with a group, and whether all of the group may be on call once more.
func (p planner) after(r rest, g group) (rest, bool) {
	r.slot++
	slots := len(p.Needs) - r.slot
	for person, left := range r.left {
		if g.has(person) {
			left--
		}
		if left < 0 {
			return rest{}, false
		}
		// nobody can be on call more often than there are slots, so that more leads to the same watches
		r.left[person] = min(left, slots)
	}
	return r, true
}
