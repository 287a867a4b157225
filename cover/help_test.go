package cover_test

import (
	"math/bits"
	"math/rand/v2"
	"slices"
	"testing"

	"handshape/api"
	"handshape/cover"
)

// poolQ is the pool Q of the chapter's examples.
func poolQ() api.Pool {
	return api.Pool{
		Folk: []api.Folk{
			{Tongues: 1, Slots: 3, Pay: 10}, {Tongues: 3, Slots: 3, Pay: 25}, {Tongues: 2, Slots: 1, Pay: 12},
			{Tongues: 2, Slots: 3, Pay: 20}, {Tongues: 1, Slots: 2, Pay: 15},
		},
		Needs: [][]int{{1, 1}, {1, 0}}, Ill: 1, Most: 2,
	}
}

// largest is a pool with the greatest numbers in which there is a safe watch: each person has to be on call in three slots.
func largest() api.Pool {
	return api.Pool{
		Folk:  slices.Repeat([]api.Folk{{Tongues: 31, Slots: 63, Pay: 1000}}, 8),
		Needs: slices.Repeat([][]int{{0, 0, 1, 0, 0}}, 6), Ill: 3, Most: 3,
	}
}

// copied is a pool in new memory.
func copied(p api.Pool) api.Pool {
	p.Folk, p.Needs = slices.Clone(p.Folk), slices.Clone(p.Needs)
	for i, l := range p.Needs {
		p.Needs[i] = slices.Clone(l)
	}
	return p
}

// changed is a pool in new memory with a change.
func changed(p api.Pool, change func(p *api.Pool)) api.Pool {
	p = copied(p)
	change(&p)
	return p
}

// changedQ is the pool Q with a change.
func changedQ(change func(p *api.Pool)) api.Pool { return changed(poolQ(), change) }

func samePool(p, q api.Pool) bool {
	lists := slices.Equal(p.Folk, q.Folk) && slices.EqualFunc(p.Needs, q.Needs, slices.Equal[[]int])
	return lists && p.Ill == q.Ill && p.Most == q.Most
}

// chance draws the same numbers in each run of the tests.
func chance() *rand.Rand { return rand.New(rand.NewPCG(10, 11)) }

// drawSet draws a set of some of so many elements, in which most of them are.
func drawSet(r *rand.Rand, elements int) int {
	return r.IntN(1<<elements) | r.IntN(1<<elements)
}

// drawFolk draws a person; many have the same pay, or none.
func drawFolk(r *rand.Rand, tongues, slots int) api.Folk {
	return api.Folk{Tongues: drawSet(r, tongues), Slots: drawSet(r, slots), Pay: r.IntN(4)}
}

// drawPool draws a pool with some numbers at most; many have a safe watch.
func drawPool(r *rand.Rand, folk, slots, tongues int) api.Pool {
	people, rows, columns := 1+r.IntN(folk), 1+r.IntN(slots), 1+r.IntN(tongues)
	p := api.Pool{Ill: r.IntN(3), Most: 1 + r.IntN(rows)}
	if r.IntN(8) == 0 {
		p.Ill, p.Most = r.IntN(api.MaxIll+1), r.IntN(api.MaxSlots+1)
	}
	for range people {
		p.Folk = append(p.Folk, drawFolk(r, columns, rows))
	}
	for range rows {
		row := make([]int, columns)
		for range r.IntN(2 + people/2) {
			row[r.IntN(columns)]++
		}
		p.Needs = append(p.Needs, row)
	}
	return p
}

// drawWatch draws a possible watch.
func drawWatch(r *rand.Rand, p api.Pool) []int {
	watch := make([]int, len(p.Needs))
	for person, x := range p.Folk {
		for n, slot := range r.Perm(len(p.Needs)) {
			if n < p.Most && has(x.Slots, slot) && r.IntN(6) > 0 {
				watch[slot] |= 1 << person
			}
		}
	}
	return watch
}

// eachSmall calls a function for drawn pools with so few people and slots that all watches can be gone through, and a possible watch of each.
func eachSmall(times int, do func(r *rand.Rand, p api.Pool, watch []int)) {
	r := chance()
	for range times {
		p := drawPool(r, 4, 3, 3)
		do(r, p, drawWatch(r, p))
	}
}

// eachLarge calls a function for drawn pools of any size, and a possible watch of each.
func eachLarge(times int, do func(r *rand.Rand, p api.Pool, watch []int)) {
	r := chance()
	for range times {
		p := drawPool(r, 8, 6, 5)
		do(r, p, drawWatch(r, p))
	}
}

func has(set, element int) bool { return set/(1<<element)%2 == 1 }

func size(set int) int { return bits.OnesCount(uint(set)) }

// serves reports whether a set of people serves needs: person by person each of their languages is tried, and none.
func serves(p api.Pool, needs []int, set int) bool {
	left := slices.Clone(needs)
	missing := 0
	for _, n := range needs {
		missing += n
	}
	var give func(person int) bool
	give = func(person int) bool {
		if missing == 0 {
			return true
		}
		if person == len(p.Folk) {
			return false
		}
		for tongue := range left {
			if !has(set, person) || !has(p.Folk[person].Tongues, tongue) || left[tongue] == 0 {
				continue
			}
			left[tongue]--
			missing--
			found := give(person + 1)
			left[tongue]++
			missing++
			if found {
				return true
			}
		}
		return give(person + 1)
	}
	return give(0)
}

// eachPart calls a function for all sets within a set.
func eachPart(set int, do func(part int)) {
	for part := range set + 1 {
		if part&set == part {
			do(part)
		}
	}
}

// covered reports whether a slot is covered with a set of people, by all that can be ill.
func covered(p api.Pool, slot, set int) bool {
	all := true
	eachPart(set, func(ill int) {
		if size(ill) <= p.Ill {
			all = all && serves(p, p.Needs[slot], set-ill)
		}
	})
	return all
}

func safe(p api.Pool, watch []int) bool {
	for slot, set := range watch {
		if !covered(p, slot, set) {
			return false
		}
	}
	return true
}

// able are all who can be on call in a slot.
func able(p api.Pool, slot int) int {
	set := 0
	for person, x := range p.Folk {
		if has(x.Slots, slot) {
			set += 1 << person
		}
	}
	return set
}

func payOf(p api.Pool, set int) int {
	sum := 0
	for person, x := range p.Folk {
		if has(set, person) {
			sum += x.Pay
		}
	}
	return sum
}

func costOf(p api.Pool, watch []int) int {
	sum := 0
	for _, set := range watch {
		sum += payOf(p, set)
	}
	return sum
}

// possible reports whether a watch is possible.
func possible(p api.Pool, watch []int) bool {
	if len(watch) != len(p.Needs) {
		return false
	}
	for slot, set := range watch {
		if set < 0 || set&able(p, slot) != set {
			return false
		}
	}
	for person := range p.Folk {
		times := 0
		for _, set := range watch {
			times += set >> person & 1
		}
		if times > p.Most {
			return false
		}
	}
	return true
}

// bestWatch is the safe watch with the least cost, the first one of several: all sets of all slots are tried in ascending order. It is nil if there is none.
func bestWatch(p api.Pool) []int {
	var best []int
	sets := make([][]int, len(p.Needs))
	for slot := range p.Needs {
		eachPart(able(p, slot), func(set int) {
			if covered(p, slot, set) {
				sets[slot] = append(sets[slot], set)
			}
		})
	}
	watch := make([]int, len(p.Needs))
	var fill func(slot int)
	fill = func(slot int) {
		if best != nil && costOf(p, watch) >= costOf(p, best) {
			return
		}
		if slot == len(watch) {
			best = slices.Clone(watch)
			return
		}
		for _, set := range sets[slot] {
			watch[slot] = set
			if possible(p, watch) {
				fill(slot + 1)
			}
			watch[slot] = 0
		}
	}
	fill(0)
	return best
}

// oneSlot is the pool with one of its slots alone.
func oneSlot(p api.Pool, slot int) api.Pool {
	p = copied(p)
	p.Needs, p.Most = p.Needs[slot:slot+1], api.MaxSlots
	for i, x := range p.Folk {
		p.Folk[i].Slots = x.Slots >> slot & 1
	}
	return p
}

// isSafe is what Safe returns of a possible watch.
func isSafe(t *testing.T, p api.Pool, watch []int) bool {
	t.Helper()
	is, e := cover.Safe(p, watch)
	if e != api.OK {
		t.Fatalf("Safe of %v and %v: error %d", p, watch, e)
	}
	return is
}

// planOf is what Plan returns; the watch is nil if there is none.
func planOf(t *testing.T, p api.Pool) ([]int, int) {
	t.Helper()
	watch, cost, e := cover.Plan(p)
	if e != api.OK && e != api.ErrNone || e == api.OK && len(watch) != len(p.Needs) || e != api.OK && (watch != nil || cost != 0) {
		t.Fatalf("Plan of %v: %v, %d, %d", p, watch, cost, e)
	}
	return watch, cost
}

func readyOf(t *testing.T, p api.Pool, watch []int, slot int) int {
	t.Helper()
	n, e := cover.Ready(p, watch, slot)
	if e != api.OK {
		t.Fatalf("Ready of %v and %v in %d: error %d", p, watch, slot, e)
	}
	return n
}

// results are all that the functions return about a pool, a watch and a slot.
type results struct {
	errors   []api.Errno
	safe     bool
	gap      api.Gap
	set, pay int
	plan     []int
	cost     int
	missed   []int
	ready    int
}

func resultsOf(p api.Pool, watch []int, slot int) results {
	var x results
	e := make([]api.Errno, 7)
	e[0] = cover.Check(p)
	x.safe, e[1] = cover.Safe(p, watch)
	x.gap, e[2] = cover.Weakest(p, watch)
	x.set, x.pay, e[3] = cover.Slot(p, slot)
	x.plan, x.cost, e[4] = cover.Plan(p)
	x.missed, e[5] = cover.Missed(p, watch)
	x.ready, e[6] = cover.Ready(p, watch, slot)
	x.errors = e
	return x
}

// isZero reports whether the functions with an error return nothing else.
func (x results) isZero() bool {
	zero := []bool{
		true, !x.safe, x.gap == api.Gap{}, x.set == 0 && x.pay == 0, len(x.plan) == 0 && x.cost == 0, len(x.missed) == 0, x.ready == 0,
	}
	for i, e := range x.errors {
		if e != api.OK && !zero[i] {
			return false
		}
	}
	return true
}
