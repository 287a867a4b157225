package turns_test

import (
	"math"
	"slices"
	"testing"

	"handshape/api"
	"handshape/turns"
)

// invalidSpans are not from 0 to some number.
func invalidSpans(most int) []api.Span {
	return []api.Span{span(-1, most), span(0, most+1), span(2, 1), span(-2, -1), span(most+1, most+1), span(math.MinInt, 0), span(0, math.MaxInt), span(math.MaxInt, math.MinInt)}
}

// invalidHands has the task T for each bound of a hand, just beyond it.
func invalidHands() []api.Task {
	var l []api.Task
	for _, s := range invalidSpans(100) {
		l = append(l, changedHand(func(h *api.Hand) { h.Start = s }))
	}
	for _, s := range invalidSpans(20) {
		l = append(l, changedHand(func(h *api.Hand) { h.Tire = s }), changedHand(func(h *api.Hand) { h.Ease = s }))
	}
	for _, n := range []int{-1, 101, math.MinInt, math.MaxInt} {
		l = append(l, changedHand(func(h *api.Hand) { h.Slip = n }), changedT(func(t *api.Task) { t.Hands[0].Slip = n }))
	}
	return l
}

// invalidTasks has the task T for each bound, just beyond it.
func invalidTasks() []api.Task {
	l := append(invalidHands(), api.Task{})
	for _, change := range []func(t *api.Task){
		func(t *api.Task) { t.Hands = nil }, func(t *api.Task) { t.Hands = slices.Repeat(t.Hands, 2) }, func(t *api.Task) { t.Hands = make([]api.Hand, 1000) },
		func(t *api.Task) { t.Parts = nil }, func(t *api.Task) { t.Parts = []int{} }, func(t *api.Task) { t.Parts = make([]int, 11) },
		func(t *api.Task) { t.Parts[0] = -1 }, func(t *api.Task) { t.Parts[3] = 11 }, func(t *api.Task) { t.Parts[1] = math.MinInt }, func(t *api.Task) { t.Parts[2] = math.MaxInt },
		func(t *api.Task) { t.Limit = 0 }, func(t *api.Task) { t.Limit = 11 }, func(t *api.Task) { t.Limit = -1 }, func(t *api.Task) { t.Limit = math.MaxInt },
		func(t *api.Task) { t.Rest = 0 }, func(t *api.Task) { t.Rest = 11 }, func(t *api.Task) { t.Rest = math.MinInt }, func(t *api.Task) { t.Rest = math.MaxInt },
		func(t *api.Task) { t.Swap = -1 }, func(t *api.Task) { t.Swap = 101 }, func(t *api.Task) { t.Swap = math.MinInt }, func(t *api.Task) { t.Swap = math.MaxInt },
	} {
		l = append(l, changedT(change))
	}
	return l
}

// largest is the task with the greatest numbers.
func largest() api.Task {
	h := api.Hand{Start: just(100), Tire: just(20), Ease: just(0), Slip: 100}
	return api.Task{Hands: []api.Hand{h, h, h}, Parts: slices.Repeat([]int{10}, 10), Limit: 10, Rest: 1, Swap: 100}
}

// P4.1
func TestCheck(t *testing.T) {
	wide := api.Hand{Start: span(0, 100), Tire: span(0, 20), Ease: span(0, 20)}
	for i, x := range []api.Task{
		taskT(), largest(), {Hands: []api.Hand{{}}, Parts: []int{0}, Limit: 1, Rest: 1},
		{Hands: []api.Hand{wide, wide, wide}, Parts: make([]int, 10), Limit: 10, Rest: 10, Swap: 100},
		changed(largest(), func(t *api.Task) { t.Hands[2].Ease = just(20) }),
		// more than there are parts
		changedT(func(t *api.Task) { t.Limit, t.Rest = 10, 10 }),
	} {
		if e := turns.Check(x); e != api.OK {
			t.Errorf("%d: Check = %d", i, e)
		}
	}
	for i, x := range invalidTasks() {
		if e := turns.Check(x); e != api.ErrTask {
			t.Errorf("%d: Check of %v = %d", i, x, e)
		}
	}
}

// invalidRotas are no rotas of the task T.
func invalidRotas() [][]int {
	return [][]int{
		nil, {}, {0}, {0, 1, 0}, {0, 1, 0, 1, 0}, make([]int, 1000),
		{-1, 1, 0, 1}, {0, 1, 0, 2}, {0, 2, 0, 1}, {0, 1, math.MinInt, 1}, {0, 1, math.MaxInt, 1},
	}
}

// isZero reports whether the functions return nothing but some error, those with a rota another one than the others.
func (x results) isZero(rota, other api.Errno) bool {
	errors := slices.Equal(x.errors, []api.Errno{other, rota, rota, other, other, rota, other})
	lists := len(x.plan)+len(x.hands)+len(x.longest)+len(x.weary) == 0
	return errors && lists && !x.right && x.best == 0 && x.worst == 0 && x.planned == 0
}

// P1, R1, R2: the error of the task comes before that of the rota, and of the other arguments.
func TestErrors(t *testing.T) {
	for i, x := range invalidTasks() {
		for _, rota := range append(invalidRotas(), []int{0, 1, 0, 1}) {
			for _, n := range []int{-1, 0, 2, 5, math.MinInt, math.MaxInt} {
				if got := resultsOf(x, rota, n, n); !got.isZero(api.ErrTask, api.ErrTask) {
					t.Errorf("%d: of %v, %v and %d: %v", i, x, rota, n, got)
				}
			}
		}
	}
}

// P1, R1, R2: the error of the rota comes before that of a part. Functions without a rota have no such error.
func TestErrorsOfRotas(t *testing.T) {
	for i, rota := range invalidRotas() {
		for _, part := range []int{-1, 0, 4, 5, math.MinInt, math.MaxInt} {
			got := resultsOf(taskT(), rota, 20, part)
			if got.right || got.best != 0 || got.worst != 0 || len(got.weary) > 0 {
				t.Errorf("%d: of %v: %v", i, rota, got)
			}
			if !slices.Equal(got.errors, []api.Errno{api.OK, api.ErrRota, api.ErrRota, api.OK, api.OK, api.ErrRota, api.OK}) {
				t.Errorf("%d: of %v: errors %v", i, rota, got.errors)
			}
		}
	}
}

// P1, R1, R2: a part beyond the task, and a number of mistakes below 0. This error comes before that of hands of whom there are none.
func TestErrorsOfNumbers(t *testing.T) {
	for _, rota := range [][]int{{0, 1, 0, 1}, {0, 0, 0, 0}} {
		for _, part := range []int{-1, 5, math.MinInt, math.MaxInt} {
			if weary, e := turns.Weary(taskT(), rota, part); len(weary) > 0 || e != api.ErrArg {
				t.Errorf("Weary of %v before %d: %v, %d", rota, part, weary, e)
			}
		}
	}
	for _, most := range []int{-1, math.MinInt} {
		for _, x := range []api.Task{taskT(), largest(), slipping(1, 1, 2, 0), slipping(1, 1, 1, 0)} {
			if hands, e := turns.Hands(x, most); len(hands) > 0 || e != api.ErrArg {
				t.Errorf("Hands of %v and %d: %v, %d", x, most, hands, e)
			}
			if parts, e := turns.Longest(x, most); len(parts) > 0 || e != api.ErrArg {
				t.Errorf("Longest of %v and %d: %v, %d", x, most, parts, e)
			}
		}
	}
}

// P1: extreme numbers and long slices lead to an error or to a result, never to a panic.
func TestAnyArguments(t *testing.T) {
	r := chance()
	number := func() int {
		return []int{math.MinInt, math.MinInt + 1, -1, 0, 0, 1, 1, 2, 2, 3, 4, 9, 10, 11, 20, 100, 101, 1 << 40, math.MaxInt - 1, math.MaxInt}[r.IntN(20)]
	}
	list := func(most int) []int {
		var l []int
		for range r.IntN(most + 1) {
			l = append(l, number())
		}
		return l
	}
	for range 5000 {
		h := api.Hand{Start: span(number(), number()), Tire: span(number(), number()), Ease: span(number(), number()), Slip: number()}
		x := api.Task{Hands: slices.Repeat([]api.Hand{h}, r.IntN(5)), Parts: list(12), Limit: number(), Rest: number(), Swap: number()}
		y := taskT()
		y.Limit, y.Rest, y.Swap = number(), number(), number()
		z := taskT()
		z.Hands[r.IntN(2)] = h
		for _, task := range []api.Task{{}, x, y, z, taskT()} {
			resultsOf(task, list(6), number(), number())
			resultsOf(task, drawRota(r, taskT()), number(), number())
		}
	}
}

// P1: the task with the greatest numbers, of which each rota is right.
func TestLargest(t *testing.T) {
	rota := []int{0, 0, 0, 0, 1, 1, 1, 2, 2, 2}
	got := resultsOf(largest(), rota, 1<<40, 10)
	if !got.right || got.best != 22600 || got.worst != 22600 || got.planned != 22600 || !slices.Equal(got.plan, rota) {
		t.Errorf("%v", got)
	}
	lists := slices.Equal(got.hands, []int{0}) && slices.Equal(got.longest, []int{10, 10, 10})
	if !lists || !slices.Equal(got.weary, []api.Span{just(180), just(160), just(160)}) {
		t.Errorf("%v", got)
	}
	if _, worst, e := turns.Mistakes(largest(), []int{0, 1, 0, 1, 0, 1, 0, 1, 0, 1}); worst != 24900 || e != api.OK {
		t.Errorf("Mistakes: %d, %d", worst, e)
	}
}

// R4: the arguments stay as they are, and the results share no memory with them.
func TestArgumentsStay(t *testing.T) {
	x, rota := taskT(), []int{1, 1, 0, 0}
	got := resultsOf(x, rota, 20, 2)
	for _, l := range [][]int{got.plan, got.hands, got.longest} {
		for i := range l {
			l[i] = 99
		}
	}
	for i := range got.weary {
		got.weary[i] = just(99)
	}
	if !sameTask(x, taskT()) || !slices.Equal(rota, []int{1, 1, 0, 0}) {
		t.Errorf("the arguments are changed: %v, %v", x, rota)
	}
}
