package turns_test

import (
	"math/rand/v2"
	"slices"
	"testing"

	"handshape/api"
	"handshape/turns"
)

// TestExamples has the table of the chapter's examples, and the row of package turns in the document's section Examples.
func TestExamples(t *testing.T) {
	x := taskT()
	good, e := turns.Right(x, []int{0, 1, 0, 1})
	bad, f := turns.Right(x, []int{0, 0, 0, 1})
	if !good || bad || e != api.OK || f != api.OK {
		t.Errorf("Right: %v, %d; %v, %d", good, e, bad, f)
	}
	if best, worst, e := turns.Mistakes(x, []int{1, 1, 0, 0}); best != 11 || worst != 15 || e != api.OK {
		t.Errorf("Mistakes of 1 1 0 0: %d, %d, %d", best, worst, e)
	}
	if _, worst, e := turns.Mistakes(x, []int{0, 0, 1, 1}); worst != 20 || e != api.OK {
		t.Errorf("Mistakes of 0 0 1 1: %d, %d", worst, e)
	}
	if rota, worst, e := turns.Plan(x); !slices.Equal(rota, []int{1, 1, 0, 0}) || worst != 15 || e != api.OK {
		t.Errorf("Plan: %v, %d, %d", rota, worst, e)
	}
	if hands, e := turns.Hands(x, 20); !slices.Equal(hands, []int{0, 1}) || e != api.OK {
		t.Errorf("Hands with 20: %v, %d", hands, e)
	}
	if hands, e := turns.Hands(x, 14); len(hands) > 0 || e != api.ErrNone {
		t.Errorf("Hands with 14: %v, %d", hands, e)
	}
	for part, want := range map[int][]api.Span{2: {span(0, 0), span(2, 8)}, 4: {span(4, 6), span(0, 4)}} {
		if weary, e := turns.Weary(x, []int{1, 1, 0, 0}, part); !slices.Equal(weary, want) || e != api.OK {
			t.Errorf("Weary before %d: %v, %d", part, weary, e)
		}
	}
	for most, want := range map[int][]int{9: {2, 2}, 5: {1, 1}} {
		if parts, e := turns.Longest(x, most); !slices.Equal(parts, want) || e != api.OK {
			t.Errorf("Longest with %d: %v, %d", most, parts, e)
		}
	}
}

// lower draws a span with no greater ends.
func lower(r *rand.Rand, s api.Span) api.Span {
	low := r.IntN(s.Low + 1)
	return span(low, low+r.IntN(s.High-low+1))
}

// greater draws a span from 0 to 20 with no lower ends.
func greater(r *rand.Rand, s api.Span) api.Span {
	high := s.High + r.IntN(20-s.High+1)
	return span(s.Low+r.IntN(high-s.Low+1), high)
}

// fresher draws a task in which somebody starts less weary, tires less, recovers more, or makes fewer mistakes.
func fresher(r *rand.Rand, t api.Task) api.Task {
	return changed(t, func(t *api.Task) {
		h := &t.Hands[r.IntN(len(t.Hands))]
		switch r.IntN(4) {
		case 0:
			h.Start = lower(r, h.Start)
		case 1:
			h.Tire = lower(r, h.Tire)
		case 2:
			h.Ease = greater(r, h.Ease)
		default:
			h.Slip = r.IntN(h.Slip + 1)
		}
	})
}

// noWorse checks that a task has a plan if another one had one, with no more worst mistakes, and reports whether it is a better one, or the first one.
func noWorse(t *testing.T, x, after api.Task) bool {
	t.Helper()
	worst, ok := planned(t, x)
	worstAfter, okAfter := planned(t, after)
	if ok && (!okAfter || worstAfter > worst) {
		t.Errorf("the plan of %v has %d, that of %v %d, %v", x, worst, after, worstAfter, okAfter)
	}
	return okAfter && (!ok || worstAfter < worst)
}

// P4.10: whoever is fresher makes no more mistakes.
func TestFresher(t *testing.T) {
	fewer, better := 0, 0
	eachTask(300, func(r *rand.Rand, x api.Task) {
		after := fresher(r, x)
		for range 20 {
			rota := drawRota(r, x)
			before, now := worstOf(t, x, rota), worstOf(t, after, rota)
			if now > before {
				t.Errorf("Mistakes of %v and %v: %d; of %v: %d", x, rota, before, after, now)
			}
			if now < before {
				fewer++
			}
		}
		if noWorse(t, x, after) {
			better++
		}
	})
	if fewer < 500 || better < 20 {
		t.Errorf("the drawn changes lead to %d rotas and %d plans with fewer mistakes", fewer, better)
	}
}

// P4.10: with a greater limit, or a lower rest, each right rota stays right.
func TestLooser(t *testing.T) {
	more, better := 0, 0
	eachTask(300, func(r *rand.Rand, x api.Task) {
		for _, after := range []api.Task{
			changed(x, func(x *api.Task) { x.Limit += 1 + r.IntN(2) }),
			changed(x, func(x *api.Task) { x.Rest = 1 + r.IntN(x.Rest) }),
		} {
			for _, rota := range allRotas(x) {
				before, _ := turns.Right(x, rota)
				now, _ := turns.Right(after, rota)
				if before && !now {
					t.Errorf("%v is right for %v, but not for %v", rota, x, after)
				}
				if !before && now {
					more++
				}
			}
			if noWorse(t, x, after) {
				better++
			}
		}
	})
	if more < 500 || better < 50 {
		t.Errorf("the drawn changes lead to %d right rotas more, and %d better plans", more, better)
	}
}

// P4.11
func TestOneMoreHand(t *testing.T) {
	better := 0
	eachTask(300, func(r *rand.Rand, x api.Task) {
		if len(x.Hands) == api.MaxHands {
			x.Hands = x.Hands[1:]
		}
		for place := range len(x.Hands) + 1 {
			after := changed(x, func(x *api.Task) { x.Hands = slices.Insert(x.Hands, place, drawHand(r, 4)) })
			if noWorse(t, x, after) {
				better++
			}
		}
	})
	if better < 100 {
		t.Errorf("the drawn hands lead to %d better plans", better)
	}
}
