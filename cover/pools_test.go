package cover_test

import (
	"math"
	"math/rand/v2"
	"slices"
	"testing"

	"handshape/api"
	"handshape/cover"
)

// invalidPools has the pool Q for each bound, just beyond it.
func invalidPools() []api.Pool {
	l := []api.Pool{{}, {Folk: make([]api.Folk, 1)}, {Needs: [][]int{{0}}}}
	for _, change := range []func(p *api.Pool){
		func(p *api.Pool) { p.Folk = nil }, func(p *api.Pool) { p.Folk = []api.Folk{} }, func(p *api.Pool) { p.Folk = make([]api.Folk, 9) }, func(p *api.Pool) { p.Folk = make([]api.Folk, 1000) },
		// the pool Q has two languages
		func(p *api.Pool) { p.Folk[0].Tongues = -1 }, func(p *api.Pool) { p.Folk[4].Tongues = 4 }, func(p *api.Pool) { p.Folk[2].Tongues = math.MinInt }, func(p *api.Pool) { p.Folk[2].Tongues = math.MaxInt },
		// and two slots
		func(p *api.Pool) { p.Folk[0].Slots = -1 }, func(p *api.Pool) { p.Folk[4].Slots = 4 }, func(p *api.Pool) { p.Folk[2].Slots = math.MinInt }, func(p *api.Pool) { p.Folk[2].Slots = math.MaxInt },
		func(p *api.Pool) { p.Folk[0].Pay = -1 }, func(p *api.Pool) { p.Folk[4].Pay = 1001 }, func(p *api.Pool) { p.Folk[2].Pay = math.MinInt }, func(p *api.Pool) { p.Folk[2].Pay = math.MaxInt },
		func(p *api.Pool) { p.Needs = nil }, func(p *api.Pool) { p.Needs = [][]int{} }, func(p *api.Pool) { p.Needs = slices.Repeat(p.Needs, 4)[:7] }, func(p *api.Pool) { p.Needs = slices.Repeat(p.Needs, 500) },
		// with one slot nobody can be on call in a second one, with one language nobody has a second one
		func(p *api.Pool) { p.Needs = p.Needs[:1] }, func(p *api.Pool) { p.Needs = [][]int{{1}, {1}} },
		func(p *api.Pool) { p.Needs = [][]int{{}, {}} }, func(p *api.Pool) { p.Needs = [][]int{nil, nil}; p.Folk = make([]api.Folk, 2) }, func(p *api.Pool) { p.Needs = slices.Repeat([][]int{make([]int, 6)}, 2) }, func(p *api.Pool) { p.Needs = slices.Repeat([][]int{make([]int, 1000)}, 2) },
		func(p *api.Pool) { p.Needs[1] = nil }, func(p *api.Pool) { p.Needs[0] = nil }, func(p *api.Pool) { p.Needs[1] = []int{1} }, func(p *api.Pool) { p.Needs[1] = []int{1, 0, 0} }, func(p *api.Pool) { p.Needs[0] = []int{1, 0, 0} },
		func(p *api.Pool) { p.Needs[0][0] = -1 }, func(p *api.Pool) { p.Needs[1][1] = 9 }, func(p *api.Pool) { p.Needs[1][0] = math.MinInt }, func(p *api.Pool) { p.Needs[0][1] = math.MaxInt },
		func(p *api.Pool) { p.Ill = -1 }, func(p *api.Pool) { p.Ill = 4 }, func(p *api.Pool) { p.Ill = math.MinInt }, func(p *api.Pool) { p.Ill = math.MaxInt },
		func(p *api.Pool) { p.Most = -1 }, func(p *api.Pool) { p.Most = 7 }, func(p *api.Pool) { p.Most = math.MinInt }, func(p *api.Pool) { p.Most = math.MaxInt },
	} {
		l = append(l, changedQ(change))
	}
	return l
}

// P10.1
func TestCheck(t *testing.T) {
	for i, p := range []api.Pool{
		poolQ(), largest(), {Folk: make([]api.Folk, 1), Needs: [][]int{{0}}}, {Folk: make([]api.Folk, 8), Needs: slices.Repeat([][]int{{8, 8, 8, 8, 8}}, 6), Ill: 3, Most: 6},
		changedQ(func(p *api.Pool) { p.Folk = p.Folk[:1] }), changedQ(func(p *api.Pool) { p.Folk[1] = api.Folk{} }), changedQ(func(p *api.Pool) { p.Folk[1] = api.Folk{Tongues: 3, Slots: 3, Pay: 1000} }),
		// nobody has a language, or can be on call; needs that nobody can serve
		changedQ(func(p *api.Pool) { p.Folk = make([]api.Folk, 8) }), changedQ(func(p *api.Pool) { p.Needs[1] = []int{8, 8} }), changedQ(func(p *api.Pool) { p.Needs[0] = []int{0, 0} }),
		changedQ(func(p *api.Pool) { p.Ill = 0 }), changedQ(func(p *api.Pool) { p.Ill = 3 }), changedQ(func(p *api.Pool) { p.Most = 0 }),
		// more slots for each person than there are
		changedQ(func(p *api.Pool) { p.Most = 6 }),
	} {
		if e := cover.Check(p); e != api.OK {
			t.Errorf("%d: Check of %v = %d", i, p, e)
		}
	}
	for i, p := range invalidPools() {
		if e := cover.Check(p); e != api.ErrPool {
			t.Errorf("%d: Check of %v = %d", i, p, e)
		}
	}
}

// impossibleWatches are not possible for the pool Q, each with a Most.
func impossibleWatches() map[int][][]int {
	return map[int][][]int{
		2: {
			nil, {}, {7}, {7, 17, 0}, make([]int, 1000), {-1, 0}, {0, -1}, {7, 32}, {7, 1 << 40}, {256, 0}, {math.MinInt, 0}, {0, math.MaxInt}, {math.MaxInt, math.MinInt},
			// the person 2 cannot be on call in the slot 1, nor the person 4 in the slot 0
			{7, 21}, {0, 4}, {23, 17}, {16, 0},
		},
		1: {{1, 1}, {2, 2}, {8, 8}, {3, 17}, {7, 17}, {15, 27}},
		0: {{1, 0}, {0, 1}, {4, 0}, {0, 16}},
	}
}

// watchErrors are the errors of all functions for a watch that is not possible, or for one that is.
func watchErrors(e api.Errno, others ...api.Errno) []api.Errno {
	return []api.Errno{api.OK, e, e, others[0], others[1], e, others[2]}
}

// P1, R1, R2: the error of the pool comes before those of watches and slots.
func TestErrorsOfPools(t *testing.T) {
	for i, p := range invalidPools() {
		for _, watch := range append(impossibleWatches()[2], []int{7, 17}) {
			for _, slot := range []int{-1, 0, 1, 2, math.MinInt, math.MaxInt} {
				got := resultsOf(p, watch, slot)
				if !got.isZero() || !slices.Equal(got.errors, slices.Repeat([]api.Errno{api.ErrPool}, 7)) {
					t.Errorf("%d: of %v, %v and %d: %v", i, p, watch, slot, got)
				}
			}
		}
	}
}

// P1, R1, R2: watches that are not possible; their error comes before that of a slot.
func TestErrorsOfWatches(t *testing.T) {
	for most, watches := range impossibleWatches() {
		p := changedQ(func(p *api.Pool) { p.Most = most })
		plan := api.OK
		if most < 2 {
			plan = api.ErrNone
		}
		for _, watch := range watches {
			for _, slot := range []int{-1, 0, 1, 2, math.MinInt, math.MaxInt} {
				e := api.ErrArg
				if slot == 0 || slot == 1 {
					e = api.OK
				}
				got := resultsOf(p, watch, slot)
				if !got.isZero() || !slices.Equal(got.errors, watchErrors(api.ErrWatch, e, plan, api.ErrWatch)) {
					t.Errorf("of Most %d, %v and %d: %v", most, watch, slot, got)
				}
			}
		}
	}
}

// P1: watches that are just possible.
func TestPossibleWatches(t *testing.T) {
	for most, watches := range map[int][][]int{
		2: {{0, 0}, {15, 0}, {0, 27}, {15, 27}, {7, 17}},
		1: {{1, 2}, {2, 1}, {15, 16}, {4, 27}, {0, 0}},
		0: {{0, 0}},
		6: {{15, 27}},
	} {
		p := changedQ(func(p *api.Pool) { p.Most = most })
		for _, watch := range watches {
			_, e := cover.Safe(p, watch)
			_, f := cover.Weakest(p, watch)
			_, g := cover.Missed(p, watch)
			_, h := cover.Ready(p, watch, 1)
			if e != api.OK || f != api.OK && f != api.ErrNone || g != api.OK || h != api.OK {
				t.Errorf("of Most %d and %v: errors %d, %d, %d, %d", most, watch, e, f, g, h)
			}
		}
	}
}

// P1: which watches are possible, of those that are near it.
func TestPossibleWatchesOfMany(t *testing.T) {
	seen := map[bool]int{}
	eachLarge(2000, func(r *rand.Rand, p api.Pool, watch []int) {
		if r.IntN(3) > 0 {
			watch[r.IntN(len(watch))] ^= 1 << r.IntN(len(p.Folk)+1)
		}
		want := api.OK
		if !possible(p, watch) {
			want = api.ErrWatch
		}
		if _, e := cover.Safe(p, watch); e != want {
			t.Errorf("Safe of %v and %v: error %d, want %d", p, watch, e, want)
		}
		seen[want == api.OK]++
	})
	if seen[true] < 500 || seen[false] < 500 {
		t.Errorf("of the drawn watches %d are possible, %d are not", seen[true], seen[false])
	}
}

// P1, R2: numbers of no slot, with a possible watch.
func TestErrorsOfSlots(t *testing.T) {
	for _, slot := range []int{-1, 2, 5, 6, 63, 64, math.MinInt, math.MaxInt} {
		got := resultsOf(poolQ(), []int{7, 17}, slot)
		want := watchErrors(api.OK, api.ErrArg, api.OK, api.ErrArg)
		want[2] = api.ErrNone
		if !got.isZero() || !slices.Equal(got.errors, want) {
			t.Errorf("%d: %v", slot, got)
		}
	}
	// ErrArg comes before ErrNone: no slot can be covered here
	p := changedQ(func(p *api.Pool) { p.Needs = [][]int{{8, 8}, {8, 8}} })
	for slot, want := range map[int]api.Errno{-1: api.ErrArg, 0: api.ErrNone, 1: api.ErrNone, 2: api.ErrArg} {
		if set, cost, e := cover.Slot(p, slot); set != 0 || cost != 0 || e != want {
			t.Errorf("Slot of %d: %d, %d, %d, want the error %d", slot, set, cost, e, want)
		}
	}
}

// P1: extreme numbers and long slices lead to an error or to a result, never to a panic.
func TestAnyArguments(t *testing.T) {
	r := chance()
	number := func() int {
		return []int{math.MinInt, math.MinInt + 1, -2, -1, -1, 0, 0, 0, 1, 1, 2, 3, 4, 5, 8, 9, 31, 63, 64, 1000, 1 << 40, math.MaxInt}[r.IntN(22)]
	}
	numbers := func(most int) []int {
		l := make([]int, r.IntN(most+1))
		for i := range l {
			l[i] = number()
		}
		return l
	}
	for range 3000 {
		person := api.Folk{Tongues: number(), Slots: number(), Pay: number()}
		x := api.Pool{Folk: slices.Repeat([]api.Folk{person}, r.IntN(10)), Ill: number(), Most: number()}
		for range r.IntN(8) {
			x.Needs = append(x.Needs, numbers(6))
		}
		y := changedQ(func(p *api.Pool) { p.Folk[r.IntN(5)] = person })
		z := changedQ(func(p *api.Pool) { p.Needs[r.IntN(2)], p.Ill, p.Most = numbers(3), number(), number() })
		for _, p := range []api.Pool{{}, x, y, z, poolQ()} {
			for _, watch := range [][]int{numbers(7), numbers(2), {7, 17}} {
				if got := resultsOf(p, watch, number()); !got.isZero() {
					t.Errorf("of %v and %v: %v", p, watch, got)
				}
			}
		}
	}
}

// R4: the arguments stay as they are, and the results share no memory with them.
func TestArgumentsStay(t *testing.T) {
	// slices with room behind their ends, so that what is added there would be seen
	p := poolQ()
	folk := append(slices.Clone(p.Folk), api.Folk{Tongues: 99})
	needs := append(slices.Clone(p.Needs), []int{99})
	sets := []int{7, 17, 99}
	p.Folk, p.Needs = folk[:5], needs[:2]
	got := resultsOf(p, sets[:2], 1)
	for _, l := range [][]int{got.plan, got.missed} {
		for i := range l {
			l[i] = 99
		}
	}
	if !samePool(p, poolQ()) || folk[5].Tongues != 99 || !slices.Equal(needs[2], []int{99}) || !slices.Equal(sets, []int{7, 17, 99}) {
		t.Errorf("the arguments are changed: %v, %v, %v, %v", p, folk, needs, sets)
	}
	// nor is anything kept from call to call
	if again := resultsOf(poolQ(), []int{7, 17}, 1); !slices.Equal(again.plan, []int{7, 17}) || !slices.Equal(again.missed, []int{2, 1, 1, 0, 1}) {
		t.Errorf("of another call: %v", again)
	}
}
