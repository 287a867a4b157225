package turns_test

import (
	"math/rand/v2"
	"slices"
	"testing"

	"handshape/api"
	"handshape/turns"
)

func span(low, high int) api.Span { return api.Span{Low: low, High: high} }

func just(n int) api.Span { return span(n, n) }

// taskT is the task T of the chapter's examples.
func taskT() api.Task {
	return api.Task{
		Hands: []api.Hand{
			{Start: span(0, 2), Tire: span(2, 3), Ease: span(1, 2), Slip: 1},
			{Start: span(0, 0), Tire: span(1, 4), Ease: span(2, 2), Slip: 2},
		},
		Parts: []int{1, 1, 2, 1}, Limit: 2, Rest: 1, Swap: 1,
	}
}

// changed is a task in new memory with a change.
func changed(t api.Task, change func(t *api.Task)) api.Task {
	t.Hands, t.Parts = slices.Clone(t.Hands), slices.Clone(t.Parts)
	change(&t)
	return t
}

// changedT is the task T with a change.
func changedT(change func(t *api.Task)) api.Task { return changed(taskT(), change) }

// changedHand is the task T with a change of its last hand.
func changedHand(change func(h *api.Hand)) api.Task {
	return changedT(func(t *api.Task) { change(&t.Hands[1]) })
}

// slipping is a task of parts with the weight 1, by hands who neither tire nor make mistakes but their slips.
func slipping(limit, rest, parts int, slips ...int) api.Task {
	t := api.Task{Parts: slices.Repeat([]int{1}, parts), Limit: limit, Rest: rest}
	for _, slip := range slips {
		t.Hands = append(t.Hands, api.Hand{Slip: slip})
	}
	return t
}

func sameTask(a, b api.Task) bool {
	lists := slices.Equal(a.Hands, b.Hands) && slices.Equal(a.Parts, b.Parts)
	return lists && a.Limit == b.Limit && a.Rest == b.Rest && a.Swap == b.Swap
}

// chance draws the same numbers in each run of the tests.
func chance() *rand.Rand { return rand.New(rand.NewPCG(7, 4)) }

// drawSpan draws a span of at most some number of integers.
func drawSpan(r *rand.Rand, most, width int) api.Span {
	low := r.IntN(most + 1)
	return span(low, min(low+r.IntN(width), most))
}

func drawHand(r *rand.Rand, width int) api.Hand {
	return api.Hand{Start: drawSpan(r, 4, width), Tire: drawSpan(r, 4, width), Ease: drawSpan(r, 4, width), Slip: r.IntN(4)}
}

// drawTask draws a task whose spans have at most some number of integers.
func drawTask(r *rand.Rand, hands, parts, width int) api.Task {
	t := api.Task{Limit: 1 + r.IntN(3), Rest: 1 + r.IntN(3), Swap: r.IntN(4)}
	for range hands {
		t.Hands = append(t.Hands, drawHand(r, width))
	}
	for range parts {
		t.Parts = append(t.Parts, r.IntN(4))
	}
	return t
}

// eachTask calls a function for drawn tasks.
func eachTask(times int, do func(r *rand.Rand, t api.Task)) {
	r := chance()
	for range times {
		do(r, drawTask(r, 1+r.IntN(3), 1+r.IntN(6), 4))
	}
}

// drawRota draws a rota of a task, which need not be right.
func drawRota(r *rand.Rand, t api.Task) []int {
	var rota []int
	for range t.Parts {
		rota = append(rota, r.IntN(len(t.Hands)))
	}
	return rota
}

// choices are all ways to take one integer of each span, in ascending order.
func choices(spans []api.Span) [][]int {
	all := [][]int{nil}
	for _, s := range spans {
		var longer [][]int
		for _, l := range all {
			for n := s.Low; n <= s.High; n++ {
				longer = append(longer, append(slices.Clone(l), n))
			}
		}
		all = longer
	}
	return all
}

// allRotas are all rotas of a task, in ascending order.
func allRotas(t api.Task) [][]int {
	return choices(slices.Repeat([]api.Span{span(0, len(t.Hands)-1)}, len(t.Parts)))
}

// run is that a hand signs from a part to the one before another one, and neither before nor after.
type run struct{ hand, from, to int }

func runsOf(rota []int) []run {
	var l []run
	for part, hand := range rota {
		if part > 0 && rota[part-1] == hand {
			l[len(l)-1].to++
		} else {
			l = append(l, run{hand, part, part + 1})
		}
	}
	return l
}

// wantRight reports whether a rota has no run that is too long, and no two of a hand that are too close.
func wantRight(t api.Task, rota []int) bool {
	runs := runsOf(rota)
	for i, x := range runs {
		if x.to-x.from > t.Limit {
			return false
		}
		for _, y := range runs[i+1:] {
			if y.hand == x.hand && y.from-x.to < t.Rest {
				return false
			}
		}
	}
	return true
}

// rightRotas are all right rotas, in ascending order.
func rightRotas(t api.Task) [][]int {
	return slices.DeleteFunc(allRotas(t), func(rota []int) bool { return !wantRight(t, rota) })
}

// spansOf are the spans from which a course takes a number for each hand in a part.
func spansOf(t api.Task, signer int) []api.Span {
	var l []api.Span
	for i, h := range t.Hands {
		if i == signer {
			l = append(l, h.Tire)
		} else {
			l = append(l, h.Ease)
		}
	}
	return l
}

func startsOf(t api.Task) []api.Span {
	var l []api.Span
	for _, h := range t.Hands {
		l = append(l, h.Start)
	}
	return l
}

// step is the weariness of each hand after a part, with the numbers that a course takes.
func step(weary, taken []int, signer int) []int {
	var after []int
	for i, n := range weary {
		if i == signer {
			after = append(after, n+taken[i])
		} else {
			after = append(after, max(n-taken[i], 0))
		}
	}
	return after
}

// mistakesOf are the mistakes of a rota in a course, which is the weariness of each hand before each part.
func mistakesOf(t api.Task, rota []int, weary [][]int) int {
	n := 0
	for part, hand := range rota {
		n += t.Parts[part] * (t.Hands[hand].Slip + weary[part][hand])
		if part > 0 && rota[part-1] != hand {
			n += t.Swap
		}
	}
	return n
}

// eachCourse calls a function for each course of a rota: the weariness of each hand before each part and after the last one.
func eachCourse(t api.Task, rota []int, do func(weary [][]int)) {
	var goOn func(weary [][]int)
	goOn = func(weary [][]int) {
		part := len(weary) - 1
		if part == len(rota) {
			do(weary)
			return
		}
		for _, taken := range choices(spansOf(t, rota[part])) {
			goOn(append(slices.Clone(weary), step(weary[part], taken, rota[part])))
		}
	}
	for _, starts := range choices(startsOf(t)) {
		goOn([][]int{starts})
	}
}

// drawCourse draws a course of a rota.
func drawCourse(r *rand.Rand, t api.Task, rota []int) [][]int {
	take := func(spans []api.Span) []int {
		var l []int
		for _, s := range spans {
			l = append(l, s.Low+r.IntN(s.High-s.Low+1))
		}
		return l
	}
	weary := [][]int{take(startsOf(t))}
	for part, hand := range rota {
		weary = append(weary, step(weary[part], take(spansOf(t, hand)), hand))
	}
	return weary
}

// worstOf are the worst mistakes of a rota.
func worstOf(t *testing.T, x api.Task, rota []int) int {
	t.Helper()
	_, worst, e := turns.Mistakes(x, rota)
	if e != api.OK {
		t.Fatalf("Mistakes of %v and %v: error %d", x, rota, e)
	}
	return worst
}

// planned are the worst mistakes of a plan, and whether there is one.
func planned(t *testing.T, x api.Task) (int, bool) {
	t.Helper()
	_, worst, e := turns.Plan(x)
	if e != api.OK && e != api.ErrNone {
		t.Fatalf("Plan of %v: error %d", x, e)
	}
	return worst, e == api.OK
}

// wantPlan goes through all right rotas; nil if there are none.
func wantPlan(t *testing.T, x api.Task) (rota []int, worst int) {
	t.Helper()
	for _, l := range rightRotas(x) {
		if n := worstOf(t, x, l); rota == nil || n < worst {
			rota, worst = l, n
		}
	}
	return rota, worst
}

// results are all that the functions return about a task, a rota, a number of mistakes and a part.
type results struct {
	errors               []api.Errno
	right                bool
	best, worst, planned int
	plan, hands, longest []int
	weary                []api.Span
}

func resultsOf(t api.Task, rota []int, most, part int) results {
	var x results
	e := make([]api.Errno, 7)
	e[0] = turns.Check(t)
	x.right, e[1] = turns.Right(t, rota)
	x.best, x.worst, e[2] = turns.Mistakes(t, rota)
	x.plan, x.planned, e[3] = turns.Plan(t)
	x.hands, e[4] = turns.Hands(t, most)
	x.weary, e[5] = turns.Weary(t, rota, part)
	x.longest, e[6] = turns.Longest(t, most)
	x.errors = e
	return x
}
