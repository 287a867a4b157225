package cover_test

import (
	"math/rand/v2"
	"slices"
	"testing"

	"handshape/api"
	"handshape/cover"
)

// one is a pool with one slot, in which a person for each of some sets of languages can be on call.
func one(ill int, needs []int, tongues ...int) api.Pool {
	p := api.Pool{Needs: [][]int{needs}, Ill: ill, Most: 1}
	for _, n := range tongues {
		p.Folk = append(p.Folk, api.Folk{Tongues: n, Slots: 1, Pay: 1})
	}
	return p
}

// P10.2, P10.7: how many of all people can be ill.
func TestReady(t *testing.T) {
	for i, x := range []struct {
		p     api.Pool
		watch int
		want  int
	}{
		{one(0, []int{1}, 1, 1, 1), 7, 2}, {one(0, []int{1}, 1, 1, 1), 1, 0}, {one(0, []int{1}, 1, 1, 1), 0, -1}, {one(0, []int{3}, 1, 1, 1), 7, 0}, {one(0, []int{8}, 1, 1, 1), 7, -1},
		// each for one language alone
		{one(0, []int{1, 1}, 3), 1, -1}, {one(0, []int{1, 1}, 3, 3), 3, 0}, {one(0, []int{1, 1}, 3, 3, 3), 7, 1}, {one(0, []int{1, 1}, 1, 1, 2), 7, 0}, {one(0, []int{2, 1}, 1, 3, 2), 7, 0}, {one(0, []int{2, 2}, 1, 3, 3, 2), 15, 0}, {one(0, []int{1, 1, 1}, 3, 3, 3), 7, -1}, {one(0, []int{1, 1, 1}, 3, 6, 5), 7, 0}, {one(0, []int{0, 1, 1}, 1, 2, 4, 6), 15, 1}, {one(0, []int{0, 1, 1}, 1, 2, 4, 7), 14, 1}, {one(0, []int{0, 1, 1}, 6, 6, 7, 7), 15, 2},
		// no needs: all can be ill, also without any languages; with needs not all can, whoever has no language
		{one(0, []int{0, 0}, 3, 0, 1), 7, 3}, {one(0, []int{0}, 0), 1, 1}, {one(0, []int{0, 0}, 3, 0, 1), 0, 0}, {one(0, []int{0, 0}, 3, 0, 1), 4, 1}, {one(0, []int{1, 0}, 1, 0, 0), 7, 0}, {one(0, []int{1, 0}, 2, 2, 2), 7, -1}, {one(0, []int{1, 0}, 1, 1, 2, 2), 15, 1},
		// those who are not on call do not count
		{one(0, []int{1}, 1, 1, 1, 1), 5, 1}, {one(0, []int{1, 1}, 1, 2, 1, 2), 5, -1}, {one(0, []int{1, 1}, 1, 2, 1, 2), 9, 0},
		// more than can be ill by the pool
		{one(3, []int{1}, 1, 1, 1, 1, 1, 1, 1, 1), 255, 7},
	} {
		for _, ill := range []int{0, 1, 2, 3} {
			x.p.Ill = ill
			if n, e := cover.Ready(x.p, []int{x.watch}, 0); n != x.want || e != api.OK {
				t.Errorf("%d: Ready = %d, %d, want %d", i, n, e, x.want)
			}
			want := x.want >= ill || x.want >= size(x.watch)
			if is, e := cover.Safe(x.p, []int{x.watch}); is != want || e != api.OK {
				t.Errorf("%d: Safe with %d ill = %v, %d, want %v", i, ill, is, e, want)
			}
		}
	}
	// each slot has its own people and needs
	for slot, want := range []int{1, 0} {
		if n := readyOf(t, poolQ(), []int{15, 1}, slot); n != want {
			t.Errorf("Ready in the slot %d = %d, want %d", slot, n, want)
		}
	}
}

// readyBy is the greatest number of people that can be ill, by all sets of them.
func readyBy(p api.Pool, slot, set int) int {
	ready := size(set)
	eachPart(set, func(ill int) {
		if !serves(p, p.Needs[slot], set-ill) {
			ready = min(ready, size(ill)-1)
		}
	})
	return ready
}

// P10.2, P10.7, P10.8: against all people who can be ill, and all languages that they can be given.
func TestSafeOfMany(t *testing.T) {
	seen, counts := map[bool]int{}, map[int]int{}
	check := func(_ *rand.Rand, p api.Pool, watch []int) {
		want := safe(p, watch)
		seen[want]++
		if is := isSafe(t, p, watch); is != want {
			t.Errorf("Safe of %v and %v = %v", p, watch, is)
		}
		for slot, set := range watch {
			want := readyBy(p, slot, set)
			counts[want]++
			if n := readyOf(t, p, watch, slot); n != want {
				t.Errorf("Ready of %v and %v in %d = %d, want %d", p, watch, slot, n, want)
			}
		}
	}
	eachSmall(1000, check)
	eachLarge(300, check)
	if seen[true] < 200 || seen[false] < 200 || counts[-1] < 200 || counts[0] < 200 || counts[1] < 200 || counts[2] < 50 {
		t.Errorf("%d drawn watches are safe, %d are not; so many can be ill: %v", seen[true], seen[false], counts)
	}
}

// P10.13: a slot is covered exactly if Ready is at least Ill, or at least the number of its people.
func TestReadyAndCovered(t *testing.T) {
	seen := map[bool]int{}
	eachLarge(500, func(_ *rand.Rand, p api.Pool, watch []int) {
		for slot, set := range watch {
			n := readyOf(t, p, watch, slot)
			is := isSafe(t, oneSlot(p, slot), watch[slot:slot+1])
			if is != (n >= p.Ill || n >= size(set)) {
				t.Errorf("Ready of %v and %v in %d = %d; covered: %v", p, watch, slot, n, is)
			}
			seen[is]++
		}
	})
	if seen[true] < 300 || seen[false] < 300 {
		t.Errorf("%d drawn slots are covered, %d are not", seen[true], seen[false])
	}
}

// P10.3
func TestWeakest(t *testing.T) {
	two := func(needs ...[]int) api.Pool {
		p := one(1, nil, 1, 1, 2, 3)
		p.Needs, p.Most = needs, 6
		for i := range p.Folk {
			p.Folk[i].Slots = 1<<len(needs) - 1
		}
		return p
	}
	for i, x := range []struct {
		p     api.Pool
		watch []int
		want  api.Gap
	}{
		{poolQ(), []int{3, 1}, api.Gap{Slot: 0, Ill: 1, Tongues: 3, Missing: 1}}, {poolQ(), []int{7, 1}, api.Gap{Slot: 1, Ill: 1, Tongues: 1, Missing: 1}}, {poolQ(), []int{0, 0}, api.Gap{Slot: 0, Ill: 0, Tongues: 3, Missing: 2}},
		// the most are missing in the second slot, for the second language, with the last person ill
		{two([]int{1, 1}, []int{1, 3}), []int{3, 15}, api.Gap{Slot: 1, Ill: 4, Tongues: 2, Missing: 2}}, {two([]int{1, 3}, []int{1, 3}), []int{15, 15}, api.Gap{Slot: 0, Ill: 4, Tongues: 2, Missing: 2}}, {two([]int{1, 1}, []int{0, 2}), []int{15, 15}, api.Gap{Slot: 1, Ill: 4, Tongues: 2, Missing: 1}},
		// nobody needs be ill: the lowest set of the ill is empty, and the lowest set of languages is the shortest one
		{one(0, []int{1, 1}, 1, 1), []int{3}, api.Gap{Tongues: 2, Missing: 1}}, {one(3, []int{0, 1, 1}, 1, 1), []int{3}, api.Gap{Tongues: 6, Missing: 2}}, {one(2, []int{2, 0}, 2, 2, 2), []int{7}, api.Gap{Tongues: 1, Missing: 2}},
		// as many ill as can be, the lowest set of them
		{one(2, []int{2}, 1, 1, 1), []int{7}, api.Gap{Ill: 3, Tongues: 1, Missing: 1}}, {one(2, []int{2}, 0, 1, 1, 1), []int{15}, api.Gap{Ill: 6, Tongues: 1, Missing: 1}}, {one(3, []int{4}, 1, 1, 1, 1, 1), []int{31}, api.Gap{Ill: 7, Tongues: 1, Missing: 2}}, {one(3, []int{4}, 1, 1, 1, 1, 1), []int{30}, api.Gap{Ill: 14, Tongues: 1, Missing: 3}},
		// a lower set can have more of them
		{one(2, []int{1, 1}, 1, 1, 2), []int{7}, api.Gap{Ill: 3, Tongues: 1, Missing: 1}},
		// fewer people than can be ill
		{one(3, []int{1}, 1, 1), []int{3}, api.Gap{Ill: 3, Tongues: 1, Missing: 1}}, {one(3, []int{1}, 1, 1), []int{2}, api.Gap{Ill: 2, Tongues: 1, Missing: 1}}, {one(3, []int{8}, 1, 1), []int{0}, api.Gap{Tongues: 1, Missing: 8}},
		{one(0, []int{8, 8, 8, 8, 8}, 31), []int{1}, api.Gap{Tongues: 31, Missing: 39}},
	} {
		if g, e := cover.Weakest(x.p, x.watch); g != x.want || e != api.OK {
			t.Errorf("%d: Weakest = %v, %d, want %v", i, g, e, x.want)
		}
	}
	for i, x := range []struct {
		p     api.Pool
		watch []int
	}{
		{poolQ(), []int{7, 17}}, {poolQ(), []int{15, 27}}, {one(3, []int{0, 0}, 1, 2), []int{0}}, {one(3, []int{0, 0}, 1, 2), []int{3}}, {one(3, []int{1}, 1, 1, 1, 1), []int{15}}, {largest(), slices.Repeat([]int{15, 240}, 3)},
	} {
		if g, e := cover.Weakest(x.p, x.watch); g != (api.Gap{}) || e != api.ErrNone {
			t.Errorf("%d: Weakest = %v, %d", i, g, e)
		}
	}
}

// missing is by how many the people who have some of the languages are fewer than all that is needed for them.
func missing(p api.Pool, slot, set, tongues int) int {
	n := 0
	for tongue, need := range p.Needs[slot] {
		if has(tongues, tongue) {
			n += need
		}
	}
	for person, x := range p.Folk {
		if has(set, person) && x.Tongues&tongues > 0 {
			n--
		}
	}
	return n
}

// gapsOf are all gaps of a watch, in the order of their slots, then of their sets of the ill, then of their languages.
func gapsOf(p api.Pool, watch []int) []api.Gap {
	var l []api.Gap
	for slot, set := range watch {
		eachPart(set, func(ill int) {
			for tongues := range 1 << len(p.Needs[0]) {
				if n := missing(p, slot, set-ill, tongues); n > 0 && size(ill) <= p.Ill {
					l = append(l, api.Gap{Slot: slot, Ill: ill, Tongues: tongues, Missing: n})
				}
			}
		})
	}
	return l
}

// P10.3, P10.9: a watch is safe exactly if it has no gap; Weakest has the first of those in which the most are missing.
func TestWeakestOfMany(t *testing.T) {
	none, several := 0, 0
	check := func(_ *rand.Rand, p api.Pool, watch []int) {
		g, e := cover.Weakest(p, watch)
		if is := isSafe(t, p, watch); is != (e == api.ErrNone) {
			t.Errorf("Weakest of %v and %v: error %d; Safe: %v", p, watch, e, is)
		}
		gaps := gapsOf(p, watch)
		if len(gaps) == 0 {
			none++
			if g != (api.Gap{}) || e != api.ErrNone {
				t.Errorf("Weakest of %v and %v: %v, %d; there is none", p, watch, g, e)
			}
			return
		}
		want, equal := gaps[0], 0
		for _, x := range gaps {
			if x.Missing > want.Missing {
				want, equal = x, 0
			} else if x.Missing == want.Missing {
				equal++
			}
		}
		if equal > 1 {
			several++
		}
		if g != want || e != api.OK {
			t.Errorf("Weakest of %v and %v: %v, %d, want %v", p, watch, g, e, want)
		}
	}
	eachSmall(1000, check)
	eachLarge(500, check)
	if none < 200 || several < 200 {
		t.Errorf("%d drawn watches have no gap, %d several equal ones", none, several)
	}
}

// P10.6
func TestMissed(t *testing.T) {
	for i, x := range []struct {
		p     api.Pool
		watch []int
		want  []int
	}{
		{poolQ(), []int{15, 17}, []int{2, 1, 0, 0, 1}}, {poolQ(), []int{7, 17}, []int{2, 1, 1, 0, 1}}, {poolQ(), []int{15, 19}, []int{1, 1, 0, 0, 0}}, {poolQ(), []int{15, 27}, []int{1, 1, 0, 0, 0}},
		// slots that are not covered do not count
		{poolQ(), []int{3, 17}, []int{1, 0, 0, 0, 1}}, {poolQ(), []int{3, 1}, []int{0, 0, 0, 0, 0}}, {poolQ(), []int{0, 0}, []int{0, 0, 0, 0, 0}},
		// nobody is missed where nothing is needed, nor is somebody without a language, nor somebody who is not on call
		{one(2, []int{0}, 1, 1), []int{3}, []int{0, 0}}, {one(2, []int{0}, 1), []int{1}, []int{0}}, {one(0, []int{1}, 0, 1), []int{3}, []int{0, 1}}, {one(0, []int{1}, 1, 1), []int{2}, []int{0, 1}}, {one(0, []int{1}, 1, 1), []int{3}, []int{0, 0}}, {one(1, []int{1}, 1, 1), []int{3}, []int{1, 1}},
		{largest(), slices.Repeat([]int{15, 240}, 3), []int{3, 3, 3, 3, 3, 3, 3, 3}},
	} {
		if l, e := cover.Missed(x.p, x.watch); !slices.Equal(l, x.want) || e != api.OK {
			t.Errorf("%d: Missed = %v, %d, want %v", i, l, e, x.want)
		}
	}
}

// P10.6: by all who can be ill.
func TestMissedOfMany(t *testing.T) {
	some, broken := 0, 0
	check := func(_ *rand.Rand, p api.Pool, watch []int) {
		want := make([]int, len(p.Folk))
		for slot, set := range watch {
			if !covered(p, slot, set) {
				broken++
				continue
			}
			for person := range p.Folk {
				if has(set, person) && !covered(p, slot, set-1<<person) {
					want[person]++
					some++
				}
			}
		}
		if l, e := cover.Missed(p, watch); !slices.Equal(l, want) || e != api.OK {
			t.Errorf("Missed of %v and %v = %v, %d, want %v", p, watch, l, e, want)
		}
	}
	eachSmall(1000, check)
	eachLarge(150, check)
	if some < 300 || broken < 300 {
		t.Errorf("%d times somebody is missed, %d slots are not covered", some, broken)
	}
}

// P10.12: with more people on call no slot that is covered is uncovered.
func TestMoreOnCall(t *testing.T) {
	more := 0
	eachLarge(500, func(r *rand.Rand, p api.Pool, watch []int) {
		for slot, set := range watch {
			// with one slot alone nobody is on call too often
			small := oneSlot(p, slot)
			larger := set | able(p, slot)&r.IntN(256)
			if larger == set || !isSafe(t, small, []int{set}) {
				continue
			}
			more++
			if !isSafe(t, small, []int{larger}) {
				t.Errorf("of %v in %d the people %d are enough, %d are not", p, slot, set, larger)
			}
		}
	})
	if more < 100 {
		t.Errorf("%d drawn slots are covered and have somebody to add", more)
	}
}

// P10.12: nobody who is missed in a slot of a safe watch can be left out there, but everybody else can.
func TestMissedAreNeeded(t *testing.T) {
	missed, others := 0, 0
	eachLarge(800, func(_ *rand.Rand, p api.Pool, watch []int) {
		if !isSafe(t, p, watch) {
			return
		}
		l, e := cover.Missed(p, watch)
		if e != api.OK {
			t.Fatalf("Missed of %v and %v: error %d", p, watch, e)
		}
		for person := range p.Folk {
			needed := 0
			for slot, set := range watch {
				if !has(set, person) {
					continue
				}
				fewer := slices.Clone(watch)
				fewer[slot] -= 1 << person
				if isSafe(t, p, fewer) {
					others++
				} else {
					needed++
				}
			}
			if l[person] != needed {
				t.Errorf("Missed of %v and %v = %v; %d cannot be left out in %d slots", p, watch, l, person, needed)
			}
			missed += needed
		}
	})
	if missed < 100 || others < 100 {
		t.Errorf("%d times somebody cannot be left out, %d times somebody can", missed, others)
	}
}
