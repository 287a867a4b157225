package turns_test

import (
	"math/rand/v2"
	"slices"
	"testing"

	"handshape/api"
	"handshape/turns"
)

// P4.3
func TestMistakes(t *testing.T) {
	alone := api.Task{Hands: []api.Hand{{Start: span(1, 3), Tire: span(2, 5), Slip: 4}}, Parts: []int{1, 10, 0}, Limit: 10, Rest: 10, Swap: 100}
	calm := api.Task{Hands: []api.Hand{{Slip: 3}, {Slip: 5}, {}}, Parts: []int{2, 3, 0, 1}, Limit: 1, Rest: 10, Swap: 7}
	resting := api.Task{Hands: []api.Hand{{}, {Start: span(3, 6), Ease: span(1, 4)}}, Parts: []int{1, 1, 1}, Limit: 3, Rest: 1}
	for i, x := range []struct {
		t           api.Task
		rota        []int
		best, worst int
	}{
		{taskT(), []int{1, 1, 0, 0}, 11, 15}, {taskT(), []int{0, 0, 1, 1}, 12, 20}, {taskT(), []int{0, 1, 0, 1}, 10, 22},
		// a rota need not be right
		{taskT(), []int{0, 0, 0, 0}, 21, 39}, {taskT(), []int{1, 1, 1, 1}, 18, 42},
		// the start is in each part, the tiring in the later ones; a weight of 0 counts nothing
		{alone, []int{0, 0, 0}, 5 + 10*7, 7 + 10*12}, {changed(alone, func(t *api.Task) { t.Parts = []int{0, 0, 1} }), []int{0, 0, 0}, 9, 17},
		// a change is counted once, whatever the part weighs, and not in the part 0
		{calm, []int{0, 0, 0, 0}, 18, 18}, {calm, []int{0, 1, 1, 1}, 6 + 15 + 5 + 7, 6 + 15 + 5 + 7}, {calm, []int{1, 1, 2, 2}, 25 + 7, 25 + 7}, {calm, []int{2, 0, 1, 2}, 9 + 21, 9 + 21}, {calm, []int{2, 1, 0, 1}, 15 + 5 + 21, 15 + 5 + 21},
		// whoever rests is less weary, but not less than 0
		{resting, []int{1, 1, 1}, 9, 18}, {resting, []int{0, 1, 0}, 0, 5}, {resting, []int{0, 0, 1}, 0, 4}, {resting, []int{1, 0, 1}, 3, 11},
		{changed(resting, func(t *api.Task) { t.Hands[1].Tire = span(0, 2) }), []int{0, 1, 1}, 0, 12},
	} {
		if best, worst, e := turns.Mistakes(x.t, x.rota); best != x.best || worst != x.worst || e != api.OK {
			t.Errorf("%d: Mistakes of %v = %d, %d, %d, want %d, %d", i, x.rota, best, worst, e, x.best, x.worst)
		}
	}
}

// P4.6
func TestWeary(t *testing.T) {
	three := api.Task{Hands: []api.Hand{{Start: span(10, 20), Ease: span(3, 8)}, {Tire: span(1, 20)}, {Start: just(5), Tire: just(2), Ease: just(1)}}, Parts: make([]int, 4), Limit: 1, Rest: 1}
	for i, x := range []struct {
		t    api.Task
		rota []int
		part int
		want []api.Span
	}{
		{taskT(), []int{1, 1, 0, 0}, 0, []api.Span{span(0, 2), just(0)}}, {taskT(), []int{1, 1, 0, 0}, 1, []api.Span{span(0, 1), span(1, 4)}},
		{taskT(), []int{1, 1, 0, 0}, 2, []api.Span{just(0), span(2, 8)}}, {taskT(), []int{1, 1, 0, 0}, 3, []api.Span{span(2, 3), span(0, 6)}}, {taskT(), []int{1, 1, 0, 0}, 4, []api.Span{span(4, 6), span(0, 4)}},
		{taskT(), []int{0, 0, 0, 0}, 4, []api.Span{span(8, 14), just(0)}},
		// nobody signs in a part before 0, nor do later parts count
		{three, []int{1, 1, 1, 1}, 0, []api.Span{span(10, 20), just(0), just(5)}}, {three, []int{1, 2, 2, 2}, 1, []api.Span{span(2, 17), span(1, 20), just(4)}},
		{three, []int{1, 1, 1, 1}, 4, []api.Span{span(0, 8), span(4, 80), just(1)}}, {three, []int{2, 2, 2, 2}, 4, []api.Span{span(0, 8), just(0), just(13)}},
		// after 0 there is no debt of weariness
		{three, []int{0, 0, 0, 2}, 4, []api.Span{span(2, 17), just(0), just(4)}}, {changed(three, func(t *api.Task) { t.Hands[2].Ease = just(20) }), []int{0, 0, 2, 2}, 4, []api.Span{span(0, 14), just(0), just(4)}},
	} {
		if got, e := turns.Weary(x.t, x.rota, x.part); !slices.Equal(got, x.want) || e != api.OK {
			t.Errorf("%d: Weary of %v before %d = %v, %d, want %v", i, x.rota, x.part, got, e, x.want)
		}
	}
}

// P4.7
func TestLongest(t *testing.T) {
	weighted := changedT(func(t *api.Task) { t.Parts, t.Limit = []int{0, 2, 0, 0, 1}, 10 })
	for i, x := range []struct {
		t    api.Task
		most int
		want []int
	}{
		{taskT(), 9, []int{2, 2}}, {taskT(), 5, []int{1, 1}}, {taskT(), 8, []int{1, 2}}, {taskT(), 7, []int{1, 1}}, {taskT(), 3, []int{1, 1}}, {taskT(), 2, []int{0, 1}}, {taskT(), 1, []int{0, 0}}, {taskT(), 0, []int{0, 0}},
		// up to the limit, or the number of parts
		{taskT(), 1 << 60, []int{2, 2}}, {changedT(func(t *api.Task) { t.Limit = 10 }), 1 << 60, []int{4, 4}}, {changedT(func(t *api.Task) { t.Limit = 3 }), 1 << 60, []int{3, 3}}, {changedT(func(t *api.Task) { t.Limit = 1 }), 1 << 60, []int{1, 1}},
		// the swap and the rest count nothing, the weights do
		{changedT(func(t *api.Task) { t.Swap, t.Rest = 100, 10 }), 9, []int{2, 2}}, {changedT(func(t *api.Task) { t.Parts[1] = 2 }), 9, []int{1, 1}},
		{weighted, 0, []int{1, 1}}, {weighted, 11, []int{1, 1}}, {weighted, 12, []int{4, 4}}, {weighted, 26, []int{4, 4}}, {weighted, 27, []int{5, 4}}, {weighted, 30, []int{5, 5}}, {weighted, 29, []int{5, 4}},
		{slipping(10, 1, 3, 0, 100, 50), 100, []int{3, 1, 2}},
	} {
		if got, e := turns.Longest(x.t, x.most); !slices.Equal(got, x.want) || e != api.OK {
			t.Errorf("%d: Longest of %d = %v, %d, want %v", i, x.most, got, e, x.want)
		}
	}
}

// widen makes a span contain a number; a new span has none.
func widen(s *api.Span, n int, first bool) {
	if first {
		*s = just(n)
	}
	*s = span(min(s.Low, n), max(s.High, n))
}

// P4.3, P4.6, P4.9: against all courses of small tasks, in which the ends are those of some.
func TestAllCourses(t *testing.T) {
	r := chance()
	for range 150 {
		x := drawTask(r, 1+r.IntN(3), 1+r.IntN(3), 2)
		rota := drawRota(r, x)
		weary := make([][]api.Span, len(rota)+1)
		for part := range weary {
			weary[part] = make([]api.Span, len(x.Hands))
		}
		var mistakes api.Span
		first := true
		eachCourse(x, rota, func(course [][]int) {
			widen(&mistakes, mistakesOf(x, rota, course), first)
			for part, l := range course {
				for hand, n := range l {
					widen(&weary[part][hand], n, first)
				}
			}
			first = false
		})
		if best, worst, e := turns.Mistakes(x, rota); span(best, worst) != mistakes || e != api.OK {
			t.Errorf("Mistakes of %v and %v = %d, %d, %d, want %v", x, rota, best, worst, e, mistakes)
		}
		for part, want := range weary {
			if got, e := turns.Weary(x, rota, part); !slices.Equal(got, want) || e != api.OK {
				t.Errorf("Weary of %v and %v before %d = %v, %d, want %v", x, rota, part, got, e, want)
			}
		}
	}
}

func isIn(s api.Span, n int) bool { return s.Low <= n && n <= s.High }

// drawLarge draws a task with as large numbers as there can be.
func drawLarge(r *rand.Rand) api.Task {
	t := drawTask(r, 1+r.IntN(3), 1+r.IntN(10), 4)
	for i := range t.Hands {
		t.Hands[i] = api.Hand{Start: drawSpan(r, 100, 101), Tire: drawSpan(r, 20, 21), Ease: drawSpan(r, 20, 21), Slip: r.IntN(101)}
	}
	for i := range t.Parts {
		t.Parts[i] = r.IntN(11)
	}
	t.Swap = r.IntN(101)
	return t
}

// P4.9: drawn courses of large tasks.
func TestDrawnCourses(t *testing.T) {
	r := chance()
	for range 200 {
		x := drawLarge(r)
		rota := drawRota(r, x)
		best, worst, e := turns.Mistakes(x, rota)
		if e != api.OK {
			t.Fatalf("Mistakes of %v and %v: error %d", x, rota, e)
		}
		for range 20 {
			course := drawCourse(r, x, rota)
			if n := mistakesOf(x, rota, course); !isIn(span(best, worst), n) {
				t.Errorf("Mistakes of %v and %v = %d, %d, but there can be %d", x, rota, best, worst, n)
			}
			for part, l := range course {
				spans, e := turns.Weary(x, rota, part)
				for hand, n := range l {
					if e != api.OK || !isIn(spans[hand], n) {
						t.Errorf("Weary of %v and %v before %d = %v, %d, but there can be %v", x, rota, part, spans, e, l)
					}
				}
			}
		}
	}
}

// worstAlone are the worst mistakes of a hand in the first parts.
func worstAlone(t *testing.T, x api.Task, hand, parts int) int {
	t.Helper()
	if parts == 0 {
		return 0
	}
	x.Parts = x.Parts[:parts]
	return worstOf(t, x, slices.Repeat([]int{hand}, parts))
}

// P4.7, P4.13
func TestNoLonger(t *testing.T) {
	found := map[int]int{}
	eachTask(1000, func(r *rand.Rand, x api.Task) {
		x.Limit += r.IntN(4)
		most := r.IntN(60)
		l, e := turns.Longest(x, most)
		if e != api.OK || len(l) != len(x.Hands) {
			t.Fatalf("Longest of %v and %d = %v, %d", x, most, l, e)
		}
		for hand, parts := range l {
			found[parts]++
			longest := min(x.Limit, len(x.Parts))
			if parts > longest || worstAlone(t, x, hand, parts) > most {
				t.Errorf("Longest of %v and %d = %v, but it is too much for %d", x, most, l, hand)
			}
			if parts < longest && worstAlone(t, x, hand, parts+1) <= most {
				t.Errorf("Longest of %v and %d = %v, but %d can do more", x, most, l, hand)
			}
		}
	})
	for parts := range 6 {
		if found[parts] < 20 {
			t.Errorf("the drawn tasks have only %d hands who can sign in %d parts", found[parts], parts)
		}
	}
}
