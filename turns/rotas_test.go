package turns_test

import (
	"math/rand/v2"
	"slices"
	"testing"

	"handshape/api"
	"handshape/turns"
)

// P4.2
func TestRight(t *testing.T) {
	for i, x := range []struct {
		limit, rest int
		rota        []int
		want        bool
	}{
		{2, 1, []int{0, 1, 0, 1}, true}, {2, 1, []int{0, 0, 0, 1}, false},
		// just the limit, or one part more: at the beginning, in the middle, at the end
		{3, 1, []int{0, 0, 0, 1, 1, 1, 0, 0, 0}, true}, {3, 1, []int{0, 0, 0, 0, 1}, false}, {3, 1, []int{1, 0, 0, 0, 0, 1}, false}, {3, 1, []int{1, 0, 0, 0, 0}, false}, {1, 1, []int{0}, true}, {1, 1, []int{0, 0}, false}, {10, 1, slices.Repeat([]int{0}, 10), true}, {9, 1, slices.Repeat([]int{0}, 10), false},
		// just the rest, or one part less
		{2, 3, []int{0, 1, 1, 2, 0}, true}, {2, 3, []int{0, 1, 1, 0}, false}, {2, 2, []int{0, 1, 0}, false}, {2, 2, []int{0, 0, 1, 1, 0, 0}, true}, {2, 2, []int{0, 0, 1, 0}, false}, {5, 2, []int{0, 1, 0}, false}, {1, 2, []int{0, 1, 2, 0, 1, 2, 0}, true}, {1, 2, []int{0, 1, 2, 1}, false}, {1, 3, []int{0, 1, 2, 0}, false},
		// the rest after the first stop, and after a later one
		{3, 2, []int{0, 1, 1, 0, 2, 0}, false}, {3, 2, []int{2, 2, 0, 1, 1, 0, 0, 2, 2, 1}, true}, {3, 4, []int{2, 2, 0, 1, 1, 0}, false},
		// a rest to the end of the task, and nobody rests before the first part in which they sign
		{1, 10, []int{0, 1}, true}, {1, 10, []int{0, 1, 2}, true}, {3, 10, []int{0, 0, 0, 2, 2, 2, 1, 1, 1}, true}, {3, 10, []int{2, 1, 0, 0}, true}, {10, 10, []int{0, 1, 1, 1, 1, 1, 1, 1, 1, 0}, false}, {8, 8, []int{0, 1, 1, 1, 1, 1, 1, 1, 1, 0}, true}, {8, 9, []int{0, 1, 1, 1, 1, 1, 1, 1, 1, 0}, false},
	} {
		task := slipping(x.limit, x.rest, len(x.rota), 0, 0, 0)
		if got, e := turns.Right(task, x.rota); got != x.want || e != api.OK {
			t.Errorf("%d: Right of %v with %d, %d = %v, %d", i, x.rota, x.limit, x.rest, got, e)
		}
	}
}

// P4.2: against the runs.
func TestRightOfMany(t *testing.T) {
	seen := map[bool]int{}
	eachTask(200, func(_ *rand.Rand, x api.Task) {
		for _, rota := range allRotas(x) {
			want := wantRight(x, rota)
			seen[want]++
			if got, e := turns.Right(x, rota); got != want || e != api.OK {
				t.Errorf("Right of %v and %v = %v, %d", x, rota, got, e)
			}
		}
	})
	if seen[true] < 500 || seen[false] < 500 {
		t.Errorf("the drawn rotas are %v", seen)
	}
}

// P4.4
func TestPlan(t *testing.T) {
	swapped := func(swap int) api.Task {
		return changed(slipping(4, 1, 4, 2, 0), func(t *api.Task) {
			t.Parts, t.Swap, t.Hands[1].Tire = []int{1, 1, 1, 1}, swap, just(3)
		})
	}
	for i, x := range []struct {
		t     api.Task
		rota  []int
		worst int
	}{
		{taskT(), []int{1, 1, 0, 0}, 15},
		{changedT(func(t *api.Task) { t.Swap = 0 }), []int{1, 1, 0, 0}, 14}, {changedT(func(t *api.Task) { t.Limit = 1 }), []int{1, 0, 1, 0}, 19},
		// of several the lowest one
		{slipping(2, 1, 6, 0, 0), []int{0, 0, 1, 0, 0, 1}, 0}, {slipping(2, 2, 6, 0, 0), []int{0, 0, 1, 1, 0, 0}, 0}, {slipping(1, 2, 5, 0, 0, 0), []int{0, 1, 2, 0, 1}, 0}, {slipping(2, 3, 6, 0, 0, 0), []int{0, 0, 1, 1, 2, 0}, 0}, {slipping(10, 10, 10, 0, 0, 0), slices.Repeat([]int{0}, 10), 0},
		{slipping(1, 1, 3, 1, 1, 1), []int{0, 1, 0}, 3}, {slipping(1, 1, 3, 2, 1, 1), []int{1, 2, 1}, 3}, {slipping(2, 1, 3, 1, 2, 1), []int{0, 0, 2}, 3},
		// whoever makes fewer mistakes signs as long as possible, where it weighs most
		{slipping(2, 1, 5, 3, 1), []int{1, 1, 0, 1, 1}, 7}, {changed(slipping(1, 1, 2, 1, 2), func(t *api.Task) { t.Parts = []int{3, 2} }), []int{0, 1}, 7}, {changed(slipping(1, 1, 2, 1, 2), func(t *api.Task) { t.Parts = []int{2, 3} }), []int{1, 0}, 7},
		// changes that are worth it, and that are not
		{swapped(0), []int{0, 0, 0, 1}, 6}, {swapped(1), []int{0, 0, 0, 1}, 7}, {swapped(2), []int{0, 0, 0, 0}, 8}, {swapped(100), []int{0, 0, 0, 0}, 8},
		// one hand alone
		{slipping(3, 10, 3, 4), []int{0, 0, 0}, 12}, {slipping(1, 10, 1, 4), []int{0}, 4},
	} {
		if rota, worst, e := turns.Plan(x.t); !slices.Equal(rota, x.rota) || worst != x.worst || e != api.OK {
			t.Errorf("%d: Plan = %v, %d, %d, want %v, %d", i, rota, worst, e, x.rota, x.worst)
		}
	}
	for i, x := range hopeless() {
		if rota, worst, e := turns.Plan(x); len(rota) > 0 || worst != 0 || e != api.ErrNone {
			t.Errorf("%d: Plan = %v, %d, %d", i, rota, worst, e)
		}
	}
}

// hopeless has tasks without a right rota.
func hopeless() []api.Task {
	return []api.Task{
		slipping(1, 1, 2, 0), slipping(9, 1, 10, 0), slipping(1, 2, 3, 0, 0), slipping(2, 3, 5, 0, 0), slipping(4, 10, 9, 0, 0), slipping(1, 3, 4, 0, 0, 0), slipping(3, 10, 10, 0, 0, 0),
	}
}

// P4.4, P4.8: against all right rotas.
func TestPlanOfMany(t *testing.T) {
	found, none := 0, 0
	eachTask(600, func(_ *rand.Rand, x api.Task) {
		want, least := wantPlan(t, x)
		rota, worst, e := turns.Plan(x)
		if want == nil {
			none++
			if len(rota) > 0 || worst != 0 || e != api.ErrNone {
				t.Errorf("Plan of %v = %v, %d, %d", x, rota, worst, e)
			}
			return
		}
		found++
		if !slices.Equal(rota, want) || worst != least || e != api.OK || !wantRight(x, rota) {
			t.Errorf("Plan of %v = %v, %d, %d, want %v, %d", x, rota, worst, e, want, least)
		}
	})
	if found < 200 || none < 50 {
		t.Errorf("the drawn tasks have %d plans, and %d have none", found, none)
	}
}

// P4.5
func TestHands(t *testing.T) {
	for i, x := range []struct {
		t    api.Task
		most int
		want []int
	}{
		{taskT(), 20, []int{0, 1}}, {taskT(), 15, []int{0, 1}}, {changedT(func(t *api.Task) { t.Limit = 4 }), 39, []int{0}}, {changedT(func(t *api.Task) { t.Limit = 4 }), 38, []int{0, 1}},
		// as few as can, even if more of them make fewer mistakes
		{slipping(3, 1, 3, 5, 0, 5), 15, []int{1}}, {slipping(3, 1, 3, 5, 4, 6), 15, []int{1}}, {slipping(3, 1, 3, 5, 6, 4), 15, []int{2}}, {slipping(3, 1, 3, 5, 6, 4), 12, []int{2}}, {slipping(1, 1, 3, 5, 6, 4), 100, []int{0, 2}}, {slipping(2, 1, 3, 6, 5, 4), 100, []int{1, 2}}, {slipping(2, 1, 3, 4, 5, 6), 13, []int{0, 1}},
		// of several the lowest ones
		{slipping(3, 1, 3, 5, 5, 5), 15, []int{0}}, {slipping(3, 1, 3, 6, 5, 5), 18, []int{1}}, {slipping(1, 1, 3, 5, 5, 5), 15, []int{0, 1}}, {slipping(1, 1, 2, 6, 5, 5), 12, []int{1, 2}}, {slipping(1, 1, 2, 5, 6, 6), 12, []int{0, 1}},
		// all three are needed to rest, or not to tire
		{slipping(1, 2, 3, 5, 5, 5), 15, []int{0, 1, 2}}, {changed(largest(), func(t *api.Task) { t.Swap = 0 }), 22400, []int{0, 1, 2}}, {largest(), 22600, []int{0, 1, 2}},
		{slipping(1, 1, 1, 0), 0, []int{0}}, {slipping(1, 1, 2, 0, 0), 0, []int{0, 1}}, {slipping(3, 1, 3, 5, 5, 0), 0, []int{2}},
	} {
		if got, e := turns.Hands(x.t, x.most); !slices.Equal(got, x.want) || e != api.OK {
			t.Errorf("%d: Hands of %d = %v, %d, want %v", i, x.most, got, e, x.want)
		}
	}
	for i, x := range hopeless() {
		if got, e := turns.Hands(x, 1<<60); len(got) > 0 || e != api.ErrNone {
			t.Errorf("%d: Hands = %v, %d", i, got, e)
		}
	}
	for most, x := range map[int]api.Task{14: taskT(), 22599: largest(), 11: slipping(3, 1, 3, 5, 6, 4), 0: slipping(1, 1, 1, 1)} {
		if got, e := turns.Hands(x, most); len(got) > 0 || e != api.ErrNone {
			t.Errorf("Hands of %v and %d = %v, %d", x, most, got, e)
		}
	}
}

// teamsOf are all choices of one or more hands, those of fewer first, and of as many in ascending order.
func teamsOf(hands int) [][]int {
	all := map[int][][]int{1: {{0}}, 2: {{0}, {1}, {0, 1}}, 3: {{0}, {1}, {2}, {0, 1}, {0, 2}, {1, 2}, {0, 1, 2}}}
	return all[hands]
}

// wantHands goes through all choices of hands; nil if there are none.
func wantHands(t *testing.T, x api.Task, most int) []int {
	t.Helper()
	var best []int
	least := 0
	for _, hands := range teamsOf(len(x.Hands)) {
		some := changed(x, func(t *api.Task) { t.Hands = nil })
		for _, hand := range hands {
			some.Hands = append(some.Hands, x.Hands[hand])
		}
		rota, worst := wantPlan(t, some)
		if rota == nil || worst > most {
			continue
		}
		if best == nil || len(hands) == len(best) && worst < least {
			best, least = hands, worst
		}
	}
	return best
}

// P4.5, P4.12
func TestHandsOfMany(t *testing.T) {
	sizes := map[int]int{}
	eachTask(400, func(r *rand.Rand, x api.Task) {
		most := r.IntN(70)
		if worst, ok := planned(t, x); ok && r.IntN(2) == 0 {
			most = worst
		}
		want := wantHands(t, x, most)
		sizes[len(want)]++
		e := api.OK
		if want == nil {
			e = api.ErrNone
		}
		if got, f := turns.Hands(x, most); !slices.Equal(got, want) || f != e {
			t.Errorf("Hands of %v and %d = %v, %d, want %v", x, most, got, f, want)
		}
	})
	for n := range 4 {
		if sizes[n] < 10 {
			t.Errorf("the drawn tasks need %v hands", sizes)
		}
	}
}
