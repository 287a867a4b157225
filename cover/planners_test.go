package cover_test

import (
	"math/rand/v2"
	"slices"
	"testing"

	"handshape/api"
	"handshape/cover"
)

// paid is a pool with a pay for each person.
func paid(p api.Pool, pay ...int) api.Pool {
	return changed(p, func(p *api.Pool) {
		for i, n := range pay {
			p.Folk[i].Pay = n
		}
	})
}

// P10.4
func TestSlot(t *testing.T) {
	for i, x := range []struct {
		p         api.Pool
		slot      int
		set, cost int
	}{
		{poolQ(), 0, 7, 47}, {poolQ(), 1, 17, 25},
		// Most does not matter
		{changedQ(func(p *api.Pool) { p.Most = 0 }), 0, 7, 47}, {changedQ(func(p *api.Pool) { p.Most = 1 }), 1, 17, 25},
		{changedQ(func(p *api.Pool) { p.Ill = 0 }), 0, 5, 22}, {changedQ(func(p *api.Pool) { p.Ill = 0 }), 1, 1, 10}, {changedQ(func(p *api.Pool) { p.Ill = 2 }), 1, 19, 50},
		// without needs nobody, whatever Ill is
		{changedQ(func(p *api.Pool) { p.Needs[0] = []int{0, 0} }), 0, 0, 0}, {changedQ(func(p *api.Pool) { p.Needs[0], p.Ill = []int{0, 0}, 3 }), 0, 0, 0},
		// the lowest pay, then the fewest people, then the lowest number
		{paid(one(0, []int{1, 1}, 1, 2, 3, 3), 1, 1, 1, 2), 0, 3, 2}, {paid(one(0, []int{1, 1}, 1, 2, 3), 5, 5, 5), 0, 3, 10}, {paid(one(0, []int{1}, 1, 1, 1), 3, 2, 2), 0, 2, 2}, {paid(one(0, []int{2}, 1, 1, 1), 0, 0, 0), 0, 3, 0}, {paid(one(0, []int{2}, 1, 1, 1), 1, 0, 0), 0, 6, 0},
		{paid(one(1, []int{1}, 0, 1, 1), 0, 3, 3), 0, 6, 6}, {paid(one(1, []int{1, 1}, 1, 2, 1, 3, 3), 1, 1, 2, 2, 2), 0, 11, 4}, {paid(one(1, []int{1, 1}, 1, 2, 3, 3, 3), 1, 2, 1, 1, 1), 0, 13, 3},
		// the people 0 to 3 cost as much as 0, 2 and 4, who are fewer
		{paid(one(1, []int{1, 1}, 1, 1, 2, 2, 3), 1, 1, 1, 1, 2), 0, 21, 4}, {paid(one(1, []int{1, 1}, 1, 1, 2, 2, 3), 1, 1, 1, 1, 3), 0, 15, 4},
		{largest(), 5, 15, 4000}, {one(3, []int{1, 1, 1, 1, 1}, 31, 31, 31, 31, 31, 31, 31, 31), 0, 255, 8},
	} {
		want := [2]int{x.set, x.cost}
		if set, cost, e := cover.Slot(x.p, x.slot); [2]int{set, cost} != want || e != api.OK {
			t.Errorf("%d: Slot = %d, %d, %d, want %v", i, set, cost, e, want)
		}
	}
	for i, p := range []api.Pool{
		one(0, []int{1}, 0, 0), one(0, []int{3}, 1, 1), one(1, []int{1, 1}, 3, 3), one(3, []int{1}, 1, 1, 1), one(0, []int{0, 1}, 1, 1), one(0, []int{8, 1}, 3, 3, 3, 3, 3, 3, 3, 3),
		// nobody can be on call in the slot
		changed(one(0, []int{1}, 1), func(p *api.Pool) { p.Folk[0].Slots = 0 }),
	} {
		if set, cost, e := cover.Slot(p, 0); set != 0 || cost != 0 || e != api.ErrNone {
			t.Errorf("%d: Slot = %d, %d, %d", i, set, cost, e)
		}
	}
}

// slotBy is the best set of people for a slot, of all sets; -1 if there is none.
func slotBy(p api.Pool, slot int) int {
	best := -1
	eachPart(able(p, slot), func(set int) {
		if !covered(p, slot, set) {
			return
		}
		less := best == -1 || payOf(p, set) < payOf(p, best) || payOf(p, set) == payOf(p, best) && size(set) < size(best)
		if less {
			best = set
		}
	})
	return best
}

// P10.4, P10.10: no set of people covers a slot for less.
func TestSlotOfMany(t *testing.T) {
	found, none := 0, 0
	check := func(r *rand.Rand, p api.Pool, _ []int) {
		slot := r.IntN(len(p.Needs))
		want := slotBy(p, slot)
		set, cost, e := cover.Slot(p, slot)
		if want == -1 {
			none++
			if set != 0 || cost != 0 || e != api.ErrNone {
				t.Errorf("Slot of %v and %d = %d, %d, %d; there is none", p, slot, set, cost, e)
			}
			return
		}
		found++
		if set != want || cost != payOf(p, want) || e != api.OK {
			t.Errorf("Slot of %v and %d = %d, %d, %d, want %d", p, slot, set, cost, e, want)
		}
	}
	eachSmall(1000, check)
	eachLarge(200, check)
	if found < 200 || none < 200 {
		t.Errorf("%d drawn slots can be covered, %d cannot", found, none)
	}
}

// everywhere is a pool with equal slots, in which some people with the language 0 can be on call.
func everywhere(slots, need, ill, most int, pay ...int) api.Pool {
	p := api.Pool{Needs: slices.Repeat([][]int{{need}}, slots), Ill: ill, Most: most}
	for _, n := range pay {
		p.Folk = append(p.Folk, api.Folk{Tongues: 1, Slots: 1<<slots - 1, Pay: n})
	}
	return p
}

// P10.5
func TestPlan(t *testing.T) {
	for i, x := range []struct {
		p     api.Pool
		watch []int
		cost  int
	}{
		{poolQ(), []int{7, 17}, 72}, {changedQ(func(p *api.Pool) { p.Most = 6 }), []int{7, 17}, 72}, {changedQ(func(p *api.Pool) { p.Ill = 0 }), []int{5, 1}, 32}, {changedQ(func(p *api.Pool) { p.Ill, p.Most = 0, 1 }), []int{5, 16}, 37},
		// the cheap person is on call once: in the first slot if it makes no difference
		{everywhere(2, 1, 0, 1, 1, 5), []int{1, 2}, 6}, {everywhere(2, 1, 0, 1, 5, 1), []int{1, 2}, 6}, {everywhere(2, 1, 0, 2, 5, 1), []int{2, 2}, 2}, {everywhere(3, 1, 0, 2, 1, 5), []int{1, 1, 2}, 7}, {everywhere(3, 1, 0, 2, 5, 1), []int{1, 2, 2}, 7}, {everywhere(4, 1, 0, 1, 4, 3, 2, 1), []int{1, 2, 4, 8}, 10}, {everywhere(6, 1, 0, 3, 7, 1, 9), []int{1, 1, 1, 2, 2, 2}, 24},
		// whom the last slot needs the first one does without
		{changed(everywhere(2, 1, 0, 1, 1, 5), func(p *api.Pool) { p.Folk[1].Slots = 1 }), []int{2, 1}, 6}, {changed(everywhere(3, 1, 0, 1, 1, 5, 9), func(p *api.Pool) { p.Folk[1].Slots, p.Folk[2].Slots = 1, 2 }), []int{2, 4, 1}, 15},
		// the last slot needs nobody, or the first one
		{changed(everywhere(2, 1, 0, 1, 1, 5), func(p *api.Pool) { p.Needs[1][0] = 0 }), []int{1, 0}, 1}, {changed(everywhere(2, 1, 0, 1, 5, 1), func(p *api.Pool) { p.Needs[0][0] = 0 }), []int{0, 2}, 1}, {everywhere(6, 0, 3, 0, 1, 1), make([]int, 6), 0},
		// people who cost nothing are left out where they are not needed
		{everywhere(2, 1, 1, 2, 0, 0, 0), []int{3, 3}, 0}, {everywhere(3, 1, 1, 2, 0, 0, 0), []int{3, 5, 6}, 0}, {everywhere(2, 1, 1, 1, 0, 0, 0, 0), []int{3, 12}, 0}, {everywhere(2, 1, 0, 2, 3, 0), []int{2, 2}, 0},
		// a lower set with more people, at the same cost
		{paid(one(1, []int{1, 1}, 1, 1, 2, 2, 3), 1, 1, 1, 1, 2), []int{15}, 4},
		{largest(), []int{15, 15, 15, 240, 240, 240}, 24000},
	} {
		if watch, cost, e := cover.Plan(x.p); !slices.Equal(watch, x.watch) || cost != x.cost || e != api.OK {
			t.Errorf("%d: Plan = %v, %d, %d, want %v, %d", i, watch, cost, e, x.watch, x.cost)
		}
	}
}

// P10.5: there is no safe watch.
func TestNoPlan(t *testing.T) {
	for i, p := range []api.Pool{
		changedQ(func(p *api.Pool) { p.Most = 1 }), changedQ(func(p *api.Pool) { p.Most = 0 }), changedQ(func(p *api.Pool) { p.Ill = 3 }), changedQ(func(p *api.Pool) { p.Needs[1][1] = 8 }), changedQ(func(p *api.Pool) { p.Needs[0][0] = 8 }),
		changed(largest(), func(p *api.Pool) { p.Most = 2 }), changed(largest(), func(p *api.Pool) { p.Needs[5][4] = 2 }), changed(largest(), func(p *api.Pool) { p.Folk = p.Folk[:7] }),
		everywhere(1, 1, 0, 0, 1), everywhere(2, 1, 0, 1, 1), everywhere(6, 1, 0, 3, 1), everywhere(6, 1, 1, 3, 1, 1, 1),
		// the person 0 is needed in both slots, the others are not
		changed(everywhere(2, 1, 0, 1, 1, 1, 1), func(p *api.Pool) { p.Folk[1].Slots, p.Folk[2].Slots = 0, 0 }),
	} {
		if watch, cost, e := cover.Plan(p); len(watch) != 0 || cost != 0 || e != api.ErrNone {
			t.Errorf("%d: Plan = %v, %d, %d", i, watch, cost, e)
		}
	}
}

// drawTight draws a pool in which so few people are needed that there often is a safe watch, but those who cost least cannot be on call in all slots.
func drawTight(r *rand.Rand, folk, slots int) api.Pool {
	p := api.Pool{Ill: r.IntN(2), Most: 1 + r.IntN(slots-1)}
	for range folk {
		p.Folk = append(p.Folk, drawFolk(r, 2, slots))
	}
	for range slots {
		p.Needs = append(p.Needs, [][]int{{0, 1}, {1, 0}, {1, 1}, {0, 2}}[r.IntN(4)])
	}
	return p
}

// eachPlanned calls a function for drawn pools of several shapes, in which all watches can be gone through.
func eachPlanned(times int, do func(r *rand.Rand, p api.Pool)) {
	r := chance()
	for range times {
		for _, p := range []api.Pool{
			drawPool(r, 4, 3, 3), drawPool(r, 3, 6, 2), drawPool(r, 6, 2, 3), drawTight(r, 4, 4), drawTight(r, 5, 3), drawTight(r, 7, 2), drawTight(r, 3, 6),
		} {
			do(r, p)
		}
	}
}

// P10.5, P10.10: against all watches.
func TestPlanOfMany(t *testing.T) {
	found, none, dear := 0, 0, 0
	eachPlanned(300, func(_ *rand.Rand, p api.Pool) {
		want := bestWatch(p)
		watch, cost, e := cover.Plan(p)
		if want == nil {
			none++
			if len(watch) != 0 || cost != 0 || e != api.ErrNone {
				t.Errorf("Plan of %v = %v, %d, %d; there is none", p, watch, cost, e)
			}
			return
		}
		found++
		if costOf(p, want) > slotsOf(t, p) {
			dear++
		}
		if !slices.Equal(watch, want) || cost != costOf(p, want) || e != api.OK {
			t.Errorf("Plan of %v = %v, %d, %d, want %v", p, watch, cost, e, want)
		}
	})
	if found < 300 || none < 300 || dear < 100 {
		t.Errorf("%d drawn pools have a safe watch, %d have none; %d cost more than their slots", found, none, dear)
	}
}

// slotsOf is the sum of the costs of Slot over all slots.
func slotsOf(t *testing.T, p api.Pool) int {
	t.Helper()
	sum := 0
	for slot := range p.Needs {
		set, cost, e := cover.Slot(p, slot)
		if e != api.OK || !covered(p, slot, set) || cost != payOf(p, set) {
			t.Fatalf("Slot of %v and %d: %d, %d, %d", p, slot, set, cost, e)
		}
		sum += cost
	}
	return sum
}

// P10.8, P10.10: the watch of Plan is possible and safe, whoever is ill; it costs at least what the slots do, and the same if somebody can be on call as often as they like.
func TestPlanIsSafe(t *testing.T) {
	found, dear := 0, 0
	eachLarge(800, func(_ *rand.Rand, p api.Pool, other []int) {
		watch, cost := planOf(t, p)
		if watch == nil {
			if safe(p, other) {
				t.Errorf("Plan of %v: none, but %v is safe", p, other)
			}
			return
		}
		found++
		if !possible(p, watch) || !safe(p, watch) || cost != costOf(p, watch) || !isSafe(t, p, watch) {
			t.Errorf("Plan of %v = %v, %d", p, watch, cost)
		}
		if isSafe(t, p, other) && costOf(p, other) < cost {
			t.Errorf("Plan of %v = %v, %d; %v costs less", p, watch, cost, other)
		}
		least := slotsOf(t, p)
		if cost < least || p.Most >= len(p.Needs) && cost != least {
			t.Errorf("Plan of %v = %v, %d; the slots cost %d", p, watch, cost, least)
		}
		if cost > least {
			dear++
		}
	})
	if found < 150 || dear < 20 {
		t.Errorf("%d drawn pools have a safe watch, %d cost more than their slots", found, dear)
	}
}

// easier are the changes of P10.11; each returns whether it could be made.
func easier() []func(r *rand.Rand, p *api.Pool) bool {
	anybody := func(r *rand.Rand, p *api.Pool) *api.Folk { return &p.Folk[r.IntN(len(p.Folk))] }
	return []func(r *rand.Rand, p *api.Pool) bool{
		func(r *rand.Rand, p *api.Pool) bool {
			x := anybody(r, p)
			old := *x
			x.Tongues |= 1 << r.IntN(len(p.Needs[0]))
			return *x != old
		},
		func(r *rand.Rand, p *api.Pool) bool {
			x := anybody(r, p)
			old := *x
			x.Slots |= 1 << r.IntN(len(p.Needs))
			return *x != old
		},
		func(r *rand.Rand, p *api.Pool) bool {
			if len(p.Folk) == api.MaxFolk {
				return false
			}
			p.Folk = append(p.Folk, drawFolk(r, len(p.Needs[0]), len(p.Needs)))
			return true
		},
		func(r *rand.Rand, p *api.Pool) bool {
			n := &p.Needs[r.IntN(len(p.Needs))][r.IntN(len(p.Needs[0]))]
			*n--
			return *n >= 0
		},
		func(_ *rand.Rand, p *api.Pool) bool { p.Ill--; return p.Ill >= 0 },
		func(r *rand.Rand, p *api.Pool) bool { x := anybody(r, p); x.Pay--; return x.Pay >= 0 },
		func(_ *rand.Rand, p *api.Pool) bool { p.Most++; return p.Most <= api.MaxSlots },
	}
}

// P10.11: with an easier pool Plan costs no more, and there is one if there was one.
func TestEasierPools(t *testing.T) {
	changes := easier()
	cheaper, first := make([]int, len(changes)), make([]int, len(changes))
	eachLarge(1500, func(r *rand.Rand, p api.Pool, _ []int) {
		watch, cost := planOf(t, p)
		for i, change := range changes {
			q := copied(p)
			if !change(r, &q) {
				continue
			}
			other, less := planOf(t, q)
			switch {
			case watch == nil && other != nil:
				first[i]++
			case watch != nil && (other == nil || less > cost):
				t.Errorf("Plan of %v = %v, %d; of %v = %v, %d", p, watch, cost, q, other, less)
			case watch != nil && less < cost:
				cheaper[i]++
			}
		}
	})
	// a lower Pay makes nothing possible
	first[5] = 5
	if slices.Min(cheaper) < 5 || slices.Min(first) < 5 {
		t.Errorf("so often Plan costs less with each change: %v; so often it becomes possible: %v", cheaper, first)
	}
}
