package relay_test

import (
	"math/rand/v2"
	"slices"
	"testing"

	"handshape/api"
	"handshape/relay"
)

// P6.4
func TestMost(t *testing.T) {
	// the calls 0 and 1 have the signer 0 alone, which has both languages
	moving := api.Studio{Times: 2, Signers: []api.Signer{{Tongues: 3, Until: 1}, {Tongues: 1, Until: 1}}, Rings: []api.Ring{call(0, 0), call(1, 0), urgent(0, 0)}}
	for i, x := range []struct {
		s      api.Studio
		time   int
		urgent bool
		want   int
	}{
		{studioS(), 0, false, 1}, {studioS(), 0, true, 0}, {studioS(), 1, false, 3}, {studioS(), 1, true, 2}, {studioS(), 2, false, 5}, {studioS(), 2, true, 2}, {studioS(), 4, false, 5}, {studioS(), 4, true, 2},
		{largest(), 0, false, 4}, {largest(), 0, true, 4}, {largest(), 1, false, 8}, {largest(), 1, true, 6}, {largest(), 7, false, 12},
		// whoever has a spot already makes room, also if emergencies cannot all be answered then
		{moving, 0, false, 2}, {moving, 0, true, 1}, {moving, 1, false, 2},
		// nobody is on duty, nobody signs the language, or the call has not come
		{api.Studio{Times: 8, Signers: []api.Signer{{Tongues: 31, From: 3, Until: 3}}, Rings: []api.Ring{urgent(0, 0)}}, 7, false, 0},
		{api.Studio{Times: 8, Signers: []api.Signer{{Tongues: 15, Until: 8}}, Rings: []api.Ring{urgent(4, 0)}}, 7, false, 0},
		{api.Studio{Times: 8, Signers: []api.Signer{{Tongues: 31, Until: 4}}, Rings: []api.Ring{urgent(0, 4)}}, 7, false, 0},
		{api.Studio{Times: 8, Signers: []api.Signer{{Tongues: 31, Until: 5}}, Rings: []api.Ring{urgent(0, 4)}}, 3, true, 0},
		{api.Studio{Times: 8, Signers: []api.Signer{{Tongues: 31, Until: 5}}, Rings: []api.Ring{urgent(0, 4)}}, 4, true, 1},
		{api.Studio{Times: 8, Signers: []api.Signer{{Tongues: 31, Until: 8}}}, 7, false, 0},
	} {
		if n, e := relay.Most(x.s, x.time, x.urgent); n != x.want || e != api.OK {
			t.Errorf("%d: Most up to %d, %v = %d, %d, want %d", i, x.time, x.urgent, n, e, x.want)
		}
	}
}

// eachMost calls a function for each time of drawn studios, for all calls and for the emergencies.
func eachMost(s api.Studio, do func(time int, urgentOnly bool)) {
	for time := range s.Times {
		do(time, false)
		do(time, true)
	}
}

// P6.4: against all sets of calls.
func TestMostOfMany(t *testing.T) {
	fewer := 0
	eachLarge(150, func(_ *rand.Rand, s api.Studio) {
		eachMost(s, func(time int, urgentOnly bool) {
			want := mostAnswered(s, time, urgentOnly)
			if n, e := relay.Most(s, time, urgentOnly); n != want || e != api.OK {
				t.Errorf("Most of %v up to %d, %v = %d, %d, want %d", s, time, urgentOnly, n, e, want)
			}
			if 0 < want && want < len(s.Rings) {
				fewer++
			}
		})
	})
	if fewer < 200 {
		t.Errorf("some calls, not all, are answered in %d drawn cases only", fewer)
	}
}

// isCover checks that spots and calls are a cover in the order that they should have.
func isCover(t *testing.T, s api.Studio, time int, urgentOnly bool, spots []api.Spot, calls []int) {
	t.Helper()
	for i, x := range spots {
		inside := 0 <= x.Signer && x.Signer < len(s.Signers) && 0 <= x.Time && x.Time <= time
		if !inside || i > 0 && (x.Signer < spots[i-1].Signer || x.Signer == spots[i-1].Signer && x.Time <= spots[i-1].Time) {
			t.Errorf("the spots %v of %v up to %d are not in order", spots, s, time)
		}
	}
	for i, x := range calls {
		if x < 0 || x >= len(s.Rings) || urgentOnly && !s.Rings[x].Urgent || i > 0 && x <= calls[i-1] {
			t.Errorf("the calls %v of %v are not in order, or not the right ones", calls, s)
		}
	}
	for i, r := range s.Rings {
		if urgentOnly && !r.Urgent || slices.Contains(calls, i) {
			continue
		}
		for n := range time + 1 {
			for signer := range s.Signers {
				if mayAnswer(s, i, at(n, signer)) && !slices.Contains(spots, api.Spot{Signer: signer, Time: n}) {
					t.Errorf("%v and %v do not cover %d of %v up to %d", spots, calls, i, s, time)
				}
			}
		}
	}
}

// coverOf is a cover, which is checked.
func coverOf(t *testing.T, s api.Studio, time int, urgentOnly bool) ([]api.Spot, []int) {
	t.Helper()
	spots, calls, e := relay.Cover(s, time, urgentOnly)
	if e != api.OK {
		t.Fatalf("Cover of %v up to %d, %v: error %d", s, time, urgentOnly, e)
	}
	isCover(t, s, time, urgentOnly, spots, calls)
	return spots, calls
}

// P6.5
func TestCover(t *testing.T) {
	one := func(rings ...api.Ring) api.Studio {
		return api.Studio{Times: 3, Signers: []api.Signer{{Tongues: 1, Until: 3}}, Rings: rings}
	}
	for i, x := range []struct {
		s      api.Studio
		time   int
		urgent bool
		spots  []api.Spot
		calls  []int
	}{
		{studioS(), 1, false, []api.Spot{{Signer: 0, Time: 0}, {Signer: 0, Time: 1}, {Signer: 1, Time: 1}}, nil},
		// more calls than spots, or more spots than calls
		{one(call(0, 0), call(0, 0), urgent(0, 0)), 1, false, []api.Spot{{Time: 0}, {Time: 1}}, nil}, {one(call(0, 0), urgent(0, 0), call(0, 0)), 1, true, nil, []int{1}}, {one(call(0, 0), urgent(0, 0)), 2, false, nil, []int{0, 1}},
		// some of both: the last time is one for three calls
		{one(call(0, 0), call(0, 2), urgent(0, 2), call(0, 2)), 2, false, []api.Spot{{Time: 2}}, []int{0}}, {one(call(0, 0), call(0, 2), urgent(0, 2), urgent(0, 2)), 2, true, []api.Spot{{Time: 2}}, nil},
		// nothing can be answered
		{one(call(1, 0), urgent(1, 0)), 2, false, nil, nil}, {one(call(0, 2), urgent(0, 2)), 1, false, nil, nil}, {one(), 2, false, nil, nil}, {one(call(0, 0)), 2, true, nil, nil},
	} {
		spots, calls, e := relay.Cover(x.s, x.time, x.urgent)
		if !slices.Equal(spots, x.spots) || !slices.Equal(calls, x.calls) || e != api.OK {
			t.Errorf("%d: Cover = %v, %v, %d, want %v, %v", i, spots, calls, e, x.spots, x.calls)
		}
	}
}

// P6.5: a cover with as few spots and calls together as Most.
func TestCoverOfMany(t *testing.T) {
	both := 0
	eachLarge(1000, func(_ *rand.Rand, s api.Studio) {
		eachMost(s, func(time int, urgentOnly bool) {
			spots, calls := coverOf(t, s, time, urgentOnly)
			if n := mostOf(t, s, time, urgentOnly); len(spots)+len(calls) != n {
				t.Errorf("Cover of %v up to %d, %v = %v, %v, but Most is %d", s, time, urgentOnly, spots, calls, n)
			}
			if len(spots) > 0 && len(calls) > 0 {
				both++
			}
		})
	})
	if both < 200 {
		t.Errorf("the drawn studios have %d covers of both spots and calls", both)
	}
}

// answered is how many calls, or emergencies, are answered at times up to one.
func answered(s api.Studio, answers []api.Answer, time int, urgentOnly bool) int {
	n := 0
	for i, a := range answers {
		if a != never && a.Time <= time && (s.Rings[i].Urgent || !urgentOnly) {
			n++
		}
	}
	return n
}

// P6.9: against all right answers.
func TestProof(t *testing.T) {
	eachSmall(300, func(_ *rand.Rand, s api.Studio) {
		right := rightAnswers(s)
		eachMost(s, func(time int, urgentOnly bool) {
			spots, calls := coverOf(t, s, time, urgentOnly)
			most := 0
			for _, answers := range right {
				most = max(most, answered(s, answers, time, urgentOnly))
			}
			if most != len(spots)+len(calls) {
				t.Errorf("%d calls of %v can be answered up to %d, %v, but the cover is %v, %v", most, s, time, urgentOnly, spots, calls)
			}
		})
	})
}

// onDuty is the number of spots on duty up to a time.
func onDuty(s api.Studio, time int) int {
	n := 0
	for _, x := range s.Signers {
		n += max(0, min(x.Until, time+1)-x.From)
	}
	return n
}

// P6.14
func TestLater(t *testing.T) {
	more, all := 0, 0
	eachLarge(1000, func(_ *rand.Rand, s api.Studio) {
		eachMost(s, func(time int, urgentOnly bool) {
			n := mostOf(t, s, time, urgentOnly)
			if time > 0 {
				before := mostOf(t, s, time-1, urgentOnly)
				if before > n {
					t.Errorf("Most of %v up to %d, %v is %d, before %d", s, time, urgentOnly, n, before)
				}
				if before < n {
					more++
				}
			}
			total := mostOf(t, s, time, false)
			if total < n || total > onDuty(s, time) {
				t.Errorf("Most of %v up to %d is %d, of the emergencies %d, with %d spots", s, time, total, n, onDuty(s, time))
			}
			if total == onDuty(s, time) && total > 0 {
				all++
			}
		})
	})
	if more < 500 || all < 200 {
		t.Errorf("there are %d drawn times with more answers, %d with all spots", more, all)
	}
}
