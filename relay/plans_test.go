package relay_test

import (
	"math/rand/v2"
	"slices"
	"testing"

	"handshape/api"
	"handshape/relay"
)

// isPlan checks that a plan has right answers with the waits that come with it, and returns these.
func isPlan(t *testing.T, s api.Studio) sums {
	t.Helper()
	answers, u, o, e := relay.Plan(s)
	if e != api.OK || len(answers) != len(s.Rings) {
		t.Fatalf("Plan of %v = %v, %d", s, answers, e)
	}
	for i, a := range answers {
		if a == never {
			continue
		}
		inside := 0 <= a.Signer && a.Signer < len(s.Signers)
		if !inside || !mayAnswer(s, i, a) || slices.Contains(answers[:i], a) {
			t.Errorf("Plan of %v = %v, which is not right", s, answers)
			return sums{u, o}
		}
	}
	if sumsOf(s, answers) != (sums{u, o}) {
		t.Errorf("Plan of %v = %v, %d, %d", s, answers, u, o)
	}
	return sums{u, o}
}

// P6.3
func TestPlan(t *testing.T) {
	one := func(times int, rings ...api.Ring) api.Studio {
		return api.Studio{Times: times, Signers: []api.Signer{{Tongues: 1, Until: times}}, Rings: rings}
	}
	two := func(rings ...api.Ring) api.Studio {
		return api.Studio{Times: 4, Signers: []api.Signer{{Tongues: 3, Until: 1}, {Tongues: 1, From: 1, Until: 4}}, Rings: rings}
	}
	for i, x := range []struct {
		s    api.Studio
		want sums
	}{
		{studioS(), sums{0, 3}}, {largest(), sums{2, 10}}, {one(3), sums{}},
		// an emergency passes calls that came before
		{one(3, call(0, 0), urgent(0, 0)), sums{0, 1}}, {one(3, call(0, 0), call(0, 0), urgent(0, 1)), sums{0, 2}}, {one(2, call(0, 0), call(0, 0), urgent(0, 1)), sums{0, 2}},
		// also if it was never answered otherwise, or a call is not then
		{one(1, call(0, 0), urgent(0, 0)), sums{0, 1}}, {one(1, urgent(0, 0), urgent(0, 0), call(0, 0)), sums{1, 1}},
		// the emergency takes the signer of the other call, although it could wait once and both were answered then
		{two(urgent(0, 0), call(1, 0)), sums{0, 4}}, {two(call(0, 0), urgent(1, 0)), sums{0, 1}}, {two(call(0, 0), call(1, 0)), sums{0, 1}}, {two(urgent(0, 0), urgent(1, 0)), sums{1, 0}}, {two(urgent(0, 0), urgent(1, 0), call(0, 0)), sums{1, 2}},
		// of emergencies it does not matter who waits, but it does for the other calls
		{api.Studio{Times: 3, Signers: []api.Signer{{Tongues: 3, Until: 1}, {Tongues: 1, Until: 1}, {Tongues: 2, From: 1, Until: 3}}, Rings: []api.Ring{urgent(0, 0), urgent(1, 0), call(0, 0)}}, sums{0, 3}},
		// two calls take other spots, so that the last one can take an early one, rather than a late one that is free
		{api.Studio{Times: 8, Signers: []api.Signer{{Tongues: 3, From: 2, Until: 3}, {Tongues: 2, From: 4, Until: 5}, {Tongues: 1, From: 5, Until: 6}}, Rings: []api.Ring{call(1, 0), call(0, 0)}}, sums{0, 6}},
		{api.Studio{Times: 8, Signers: []api.Signer{{Tongues: 3, From: 3, Until: 4}, {Tongues: 6, From: 4, Until: 5}, {Tongues: 4, From: 5, Until: 6}, {Tongues: 1, From: 6, Until: 7}}, Rings: []api.Ring{call(1, 0), urgent(2, 0), urgent(2, 0), call(0, 2)}}, sums{9, 7}},
		// a language of nobody
		{one(8, urgent(1, 0), call(1, 3), call(0, 0)), sums{8, 5}},
	} {
		if got := isPlan(t, x.s); got != x.want {
			t.Errorf("%d: Plan = %v, want %v", i, got, x.want)
		}
	}
}

// P6.3, P6.8: against all right answers of small studios.
func TestLeastOfAll(t *testing.T) {
	passed := 0
	eachSmall(1000, func(_ *rand.Rand, s api.Studio) {
		got, best := isPlan(t, s), sums{1 << 40, 0}
		for _, answers := range rightAnswers(s) {
			if x := sumsOf(s, answers); best.worse(x) {
				best = x
			}
		}
		if got != best {
			t.Errorf("Plan of %v = %v, want %v", s, got, best)
		}
		if got != planned(t, calm(s)) && got.other > 0 {
			passed++
		}
	})
	if passed < 50 {
		t.Errorf("the drawn studios have only %d in which emergencies make others wait", passed)
	}
}

// calm is a studio in which no call is an emergency.
func calm(s api.Studio) api.Studio {
	return changed(s, func(s *api.Studio) {
		for i := range s.Rings {
			s.Rings[i].Urgent = false
		}
	})
}

// P6.3, P6.8: against all sets of calls of large studios.
func TestLeast(t *testing.T) {
	waited := 0
	eachLarge(150, func(_ *rand.Rand, s api.Studio) {
		want := leastSums(s)
		if got := isPlan(t, s); got != want {
			t.Errorf("Plan of %v = %v, want %v", s, got, want)
		}
		if want.urgent > 0 && want.other > 0 {
			waited++
		}
	})
	if waited < 50 {
		t.Errorf("the drawn studios have only %d in which both emergencies and others wait", waited)
	}
	eachShort(3000, func(_ *rand.Rand, s api.Studio) {
		if got, want := isPlan(t, s), leastSums(s); got != want {
			t.Errorf("Plan of %v = %v, want %v", s, got, want)
		}
	})
}

// P6.10
func TestOthersDoNotCount(t *testing.T) {
	waited := 0
	eachLarge(1000, func(_ *rand.Rand, s api.Studio) {
		got := planned(t, s)
		alone := planned(t, changed(s, func(s *api.Studio) {
			s.Rings = slices.DeleteFunc(s.Rings, func(r api.Ring) bool { return !r.Urgent })
		}))
		if alone != (sums{got.urgent, 0}) {
			t.Errorf("Plan of %v = %v, of the emergencies %v", s, got, alone)
		}
		if got.urgent > 0 && got.other > 0 {
			waited++
		}
	})
	if waited < 200 {
		t.Errorf("the drawn studios have only %d in which both emergencies and others wait", waited)
	}
}

// eased are a studio with one more language of a signer, with a longer duty, and with one more signer, if there is room.
func eased(r *rand.Rand, s api.Studio) []api.Studio {
	i := r.IntN(len(s.Signers))
	l := []api.Studio{
		changed(s, func(s *api.Studio) { s.Signers[i].Tongues |= 1 << r.IntN(3) }),
		changed(s, func(s *api.Studio) { s.Signers[i].From = r.IntN(s.Signers[i].From + 1) }),
		changed(s, func(s *api.Studio) { s.Signers[i].Until += r.IntN(s.Times - s.Signers[i].Until + 1) }),
	}
	if len(s.Signers) < api.MaxSigners {
		l = append(l, changed(s, func(s *api.Studio) {
			s.Signers = slices.Insert(s.Signers, r.IntN(len(s.Signers)+1), drawSigner(r, s.Times, 3))
		}))
	}
	return l
}

// P6.11
func TestEased(t *testing.T) {
	better, more := 0, 0
	eachLarge(500, func(r *rand.Rand, s api.Studio) {
		before := planned(t, s)
		for _, x := range eased(r, s) {
			after := planned(t, x)
			if after.worse(before) {
				t.Errorf("Plan of %v is %v, of %v %v", s, before, x, after)
			}
			if before.worse(after) {
				better++
			}
			eachMost(s, func(time int, urgentOnly bool) {
				n, m := mostOf(t, s, time, urgentOnly), mostOf(t, x, time, urgentOnly)
				if m < n {
					t.Errorf("Most of %v up to %d, %v is %d, of %v %d", s, time, urgentOnly, n, x, m)
				}
				if m > n {
					more++
				}
			})
		}
	})
	if better < 200 || more < 500 {
		t.Errorf("the drawn changes lead to %d better plans, and %d times to more answers", better, more)
	}
}

// P6.6
func TestVital(t *testing.T) {
	with := func(signers []api.Signer, rings ...api.Ring) api.Studio {
		return api.Studio{Times: 3, Signers: signers, Rings: rings}
	}
	both := []api.Signer{{Tongues: 1, Until: 3}, {Tongues: 3, Until: 3}}
	for i, x := range []struct {
		s    api.Studio
		want []int
	}{
		{studioS(), []int{0, 1}},
		// no emergency, or one for whom there are two, one or none
		{with(both, call(0, 0), call(1, 0)), nil}, {with(both, urgent(0, 0)), nil}, {with(both, urgent(1, 0)), []int{1}}, {with(both, urgent(2, 0)), nil}, {with(both), nil},
		// both are needed at once, or for two languages
		{with(both, urgent(0, 0), urgent(0, 0)), []int{0, 1}}, {with(both, urgent(0, 0), urgent(1, 0)), []int{0, 1}}, {with(both, urgent(0, 0), urgent(0, 1)), nil},
		// the other one is not on duty then, or comes later
		{with([]api.Signer{{Tongues: 1, Until: 2}, {Tongues: 1, Until: 3}}, urgent(0, 2)), []int{1}}, {with([]api.Signer{{Tongues: 1, From: 1, Until: 3}, {Tongues: 1, Until: 1}}, urgent(0, 0)), []int{1}},
		{with([]api.Signer{{Tongues: 1, From: 2, Until: 3}, {Tongues: 1, Until: 3}, {Tongues: 1, Until: 3}, {}}, urgent(0, 0), urgent(0, 0)), []int{1, 2}},
	} {
		if got, e := relay.Vital(x.s); !slices.Equal(got, x.want) || e != api.OK {
			t.Errorf("%d: Vital = %v, %d, want %v", i, got, e, x.want)
		}
	}
}

// P6.6: against the least waits.
func TestVitalOfMany(t *testing.T) {
	found := map[int]int{}
	eachLarge(200, func(_ *rand.Rand, s api.Studio) {
		least := leastSums(s).urgent
		var want []int
		for i := range s.Signers {
			if leastSums(changed(s, func(s *api.Studio) { s.Signers[i].Tongues = 0 })).urgent > least {
				want = append(want, i)
			}
		}
		found[len(want)]++
		if got, e := relay.Vital(s); !slices.Equal(got, want) || e != api.OK {
			t.Errorf("Vital of %v = %v, %d, want %v", s, got, e, want)
		}
	})
	if found[0] < 10 || found[1] < 10 || found[2] < 10 {
		t.Errorf("the drawn studios have so many vital signers: %v", found)
	}
}

// P6.7
func TestFree(t *testing.T) {
	one := api.Studio{Times: 4, Signers: []api.Signer{{Tongues: 5, Until: 3}}}
	with := func(rings ...api.Ring) api.Studio {
		return changed(one, func(s *api.Studio) { s.Rings = rings })
	}
	for i, x := range []struct {
		s      api.Studio
		tongue int
		want   []int
	}{
		{studioS(), 0, []int{0, 2, 3}}, {studioS(), 1, []int{0, 2, 3, 4}}, {studioS(), 2, nil}, {studioS(), 3, nil}, {studioS(), 4, nil},
		{one, 0, []int{0, 1, 2}}, {one, 1, nil}, {one, 2, []int{0, 1, 2}}, {one, 4, nil},
		// other calls do not count, emergencies do, whatever their language is
		{with(call(0, 0), call(2, 1)), 0, []int{0, 1, 2}}, {with(urgent(0, 1)), 0, []int{0, 2}}, {with(urgent(2, 1)), 0, []int{0, 2}}, {with(urgent(1, 1)), 0, []int{0, 1, 2}},
		// an emergency that waits already, and one that nobody answers in time
		{with(urgent(0, 0), urgent(0, 0)), 2, []int{2}}, {with(urgent(0, 2), urgent(0, 2)), 2, []int{0, 1}}, {with(urgent(0, 0), urgent(0, 0), urgent(2, 0), urgent(2, 0)), 2, nil},
		// one more than there may be calls
		{with(slices.Repeat([]api.Ring{call(0, 0)}, 12)...), 0, []int{0, 1, 2}}, {largest(), 0, []int{1, 2, 3, 4, 5, 6, 7}}, {changed(largest(), func(s *api.Studio) { s.Rings[4], s.Rings[5] = urgent(3, 0), urgent(4, 1) }), 0, []int{2, 3, 4, 5, 6, 7}},
	} {
		if got, e := relay.Free(x.s, x.tongue); !slices.Equal(got, x.want) || e != api.OK {
			t.Errorf("%d: Free of %d = %v, %d, want %v", i, x.tongue, got, e, x.want)
		}
	}
}

// P6.7: against the least waits.
func TestFreeOfMany(t *testing.T) {
	found := map[bool]int{}
	eachLarge(200, func(r *rand.Rand, s api.Studio) {
		least, tongue := leastSums(s).urgent, r.IntN(2)
		var want []int
		for time := range s.Times {
			more := changed(s, func(s *api.Studio) { s.Rings = append(s.Rings, urgent(tongue, time)) })
			isFree := leastSums(more).urgent == least
			if isFree {
				want = append(want, time)
			}
			found[isFree]++
		}
		if got, e := relay.Free(s, tongue); !slices.Equal(got, want) || e != api.OK {
			t.Errorf("Free of %v and %d = %v, %d, want %v", s, tongue, got, e, want)
		}
	})
	if found[true] < 40 || found[false] < 40 {
		t.Errorf("the drawn studios have so many free and other times: %v", found)
	}
}

// P6.12: the free times are those with right answers that answer the new emergency at once.
func TestAtOnce(t *testing.T) {
	freeTimes := 0
	eachSmall(600, func(r *rand.Rand, s api.Studio) {
		tongue, least := r.IntN(2), planned(t, s).urgent
		free, e := relay.Free(s, tongue)
		if e != api.OK {
			t.Fatalf("Free of %v and %d: error %d", s, tongue, e)
		}
		for time := range s.Times {
			more := changed(s, func(s *api.Studio) { s.Rings = append(s.Rings, urgent(tongue, time)) })
			atOnce := slices.ContainsFunc(rightAnswers(more), func(answers []api.Answer) bool {
				return answers[len(s.Rings)].Time == time && sumsOf(more, answers).urgent <= least
			})
			if atOnce != slices.Contains(free, time) {
				t.Errorf("Free of %v and %d = %v, but at %d: %v", s, tongue, free, time, atOnce)
			}
			if atOnce {
				freeTimes++
			}
		}
	})
	if freeTimes < 100 {
		t.Errorf("the drawn studios have %d free times", freeTimes)
	}
}

// hasAnswerer reports whether some signer signs the language of a call, and is on duty from then on.
func hasAnswerer(s api.Studio, r api.Ring) bool {
	return slices.ContainsFunc(s.Signers, func(x api.Signer) bool {
		return x.Tongues&(1<<r.Tongue) != 0 && x.From <= r.At && x.Until == s.Times
	})
}

// P6.13
func TestBounded(t *testing.T) {
	longest := 0
	eachSmall(1000, func(_ *rand.Rand, s api.Studio) {
		best := planned(t, s)
		for _, answers := range rightAnswers(s) {
			if sumsOf(s, answers) != best {
				continue
			}
			for i, r := range s.Rings {
				if !hasAnswerer(s, r) {
					continue
				}
				wait := s.Times - r.At
				if answers[i] != never {
					wait = answers[i].Time - r.At
				}
				if wait >= len(s.Rings) {
					t.Errorf("with the best answers %v of %v the call %d waits for %d", answers, s, i, wait)
				}
				if wait == len(s.Rings)-1 && wait > 0 {
					longest++
				}
			}
		}
	})
	if longest < 20 {
		t.Errorf("as long as they may wait only %d calls of the drawn studios", longest)
	}
}
