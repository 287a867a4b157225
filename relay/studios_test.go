package relay_test

import (
	"math"
	"math/rand/v2"
	"slices"
	"testing"

	"handshape/api"
	"handshape/relay"
)

// invalidStudios has the studio S for each bound, just beyond it.
func invalidStudios() []api.Studio {
	l := []api.Studio{{}, {Times: 3}, {Signers: []api.Signer{{}}}}
	for _, change := range []func(s *api.Studio){
		func(s *api.Studio) { s.Times = 0; s.Signers, s.Rings = make([]api.Signer, 1), nil },
		func(s *api.Studio) { s.Times = 9 }, func(s *api.Studio) { s.Times = -1 }, func(s *api.Studio) { s.Times = math.MinInt }, func(s *api.Studio) { s.Times = math.MaxInt },
		// the second signer is on duty up to 5
		func(s *api.Studio) { s.Times = 4 },
		func(s *api.Studio) { s.Signers = nil }, func(s *api.Studio) { s.Signers = []api.Signer{} }, func(s *api.Studio) { s.Signers = make([]api.Signer, 5) }, func(s *api.Studio) { s.Signers = make([]api.Signer, 1000) },
		func(s *api.Studio) { s.Signers[0].Tongues = -1 }, func(s *api.Studio) { s.Signers[1].Tongues = 32 }, func(s *api.Studio) { s.Signers[1].Tongues = math.MinInt }, func(s *api.Studio) { s.Signers[0].Tongues = math.MaxInt },
		func(s *api.Studio) { s.Signers[0].From = -1 }, func(s *api.Studio) { s.Signers[0].From = 5 }, func(s *api.Studio) { s.Signers[1].From = math.MinInt }, func(s *api.Studio) { s.Signers[1].From = math.MaxInt },
		func(s *api.Studio) { s.Signers[0].Until = 6 }, func(s *api.Studio) { s.Signers[1].Until = 0 }, func(s *api.Studio) { s.Signers[1].Until = -1 }, func(s *api.Studio) { s.Signers[1].Until = math.MinInt }, func(s *api.Studio) { s.Signers[1].Until = math.MaxInt },
		func(s *api.Studio) { s.Signers[1].From, s.Signers[1].Until = 6, 6 },
		func(s *api.Studio) { s.Rings = make([]api.Ring, 13) }, func(s *api.Studio) { s.Rings = make([]api.Ring, 1000) },
		func(s *api.Studio) { s.Rings[0].Tongue = -1 }, func(s *api.Studio) { s.Rings[4].Tongue = 5 }, func(s *api.Studio) { s.Rings[4].Tongue = math.MinInt }, func(s *api.Studio) { s.Rings[4].Tongue = math.MaxInt },
		func(s *api.Studio) { s.Rings[0].At = -1 }, func(s *api.Studio) { s.Rings[4].At = 5 }, func(s *api.Studio) { s.Rings[4].At = math.MinInt }, func(s *api.Studio) { s.Rings[4].At = math.MaxInt },
	} {
		l = append(l, changedS(change))
	}
	return l
}

// P6.1
func TestCheck(t *testing.T) {
	for i, x := range []api.Studio{
		studioS(), largest(), {Times: 1, Signers: []api.Signer{{}}},
		changedS(func(s *api.Studio) { s.Rings = nil }), changedS(func(s *api.Studio) { s.Rings = make([]api.Ring, 12) }),
		changedS(func(s *api.Studio) { s.Signers = make([]api.Signer, 4) }), changedS(func(s *api.Studio) { s.Times = 8 }),
		// nobody is on duty from some time up to the same one
		changedS(func(s *api.Studio) { s.Signers[0] = api.Signer{Tongues: 31, From: 5, Until: 5} }), changedS(func(s *api.Studio) { s.Signers[0] = api.Signer{Tongues: 31} }),
		changedS(func(s *api.Studio) { s.Signers[0].Tongues = 0 }), changedS(func(s *api.Studio) { s.Rings[0] = urgent(4, 4) }),
	} {
		if e := relay.Check(x); e != api.OK {
			t.Errorf("%d: Check = %d", i, e)
		}
	}
	for i, x := range invalidStudios() {
		if e := relay.Check(x); e != api.ErrStudio {
			t.Errorf("%d: Check of %v = %d", i, x, e)
		}
	}
}

// P6.2
func TestWaits(t *testing.T) {
	for i, x := range []struct {
		s             api.Studio
		answers       []api.Answer
		urgent, other int
	}{
		{studioS(), []api.Answer{at(0, 0), at(2, 1), at(1, 0), at(1, 1), at(2, 0)}, 0, 3},
		// nobody answers: up to the end of the studio
		{studioS(), []api.Answer{never, never, never, never, never}, 8, 14}, {changedS(func(s *api.Studio) { s.Times = 8 }), []api.Answer{never, never, never, never, never}, 14, 23},
		// each as late as it can
		{studioS(), []api.Answer{at(3, 0), at(4, 1), at(2, 0), at(3, 1), never}, 3, 11}, {studioS(), []api.Answer{never, at(0, 0), at(3, 0), at(4, 1), never}, 5, 9},
		// two signers at the same time, and one at several ones
		{studioS(), []api.Answer{never, at(1, 1), at(1, 0), at(2, 1), at(3, 1)}, 1, 8},
		{changedS(func(s *api.Studio) { s.Rings = nil }), nil, 0, 0}, {changedS(func(s *api.Studio) { s.Rings = nil }), []api.Answer{}, 0, 0},
		{largest(), slices.Repeat([]api.Answer{never}, 12), 48, 48},
	} {
		if u, o, e := relay.Waits(x.s, x.answers); u != x.urgent || o != x.other || e != api.OK {
			t.Errorf("%d: Waits = %d, %d, %d, want %d, %d", i, u, o, e, x.urgent, x.other)
		}
	}
}

// P6.2: all lists of answers of small studios, right ones and others.
func TestWaitsOfMany(t *testing.T) {
	seen := map[bool]int{}
	eachSmall(300, func(r *rand.Rand, s api.Studio) {
		right := rightAnswers(s)
		for range 20 {
			var answers []api.Answer
			for range s.Rings {
				answers = append(answers, at(r.IntN(s.Times+2)-1, r.IntN(len(s.Signers)+2)-1))
				if r.IntN(3) == 0 {
					answers[len(answers)-1] = never
				}
			}
			isRight := slices.ContainsFunc(right, func(l []api.Answer) bool { return slices.Equal(l, answers) })
			seen[isRight && len(answers) > 0]++
			u, o, e := relay.Waits(s, answers)
			if isRight && (sums{u, o} != sumsOf(s, answers) || e != api.OK) || !isRight && (u != 0 || o != 0 || e != api.ErrAnswer) {
				t.Errorf("Waits of %v and %v = %d, %d, %d", s, answers, u, o, e)
			}
		}
		for _, answers := range right {
			if u, o, e := relay.Waits(s, answers); (sums{u, o}) != sumsOf(s, answers) || e != api.OK {
				t.Errorf("Waits of %v and %v = %d, %d, %d", s, answers, u, o, e)
			}
		}
	})
	if seen[true] < 500 || seen[false] < 500 {
		t.Errorf("of the drawn answers %d are right, %d are not", seen[true], seen[false])
	}
}

// invalidAnswers are not right for the studio S.
func invalidAnswers() [][]api.Answer {
	l := [][]api.Answer{nil, {}, {never}, slices.Repeat([]api.Answer{never}, 4), slices.Repeat([]api.Answer{never}, 6), slices.Repeat([]api.Answer{never}, 1000)}
	for call, answers := range [][]api.Answer{
		// the signer 0 is on duty from 0 to 3, and signs 0 and 1
		{at(4, 0), at(5, 0), at(0, 1), at(1, 1), at(4, 1)},
		// the signer 1 is on duty from 1 to 4, and signs 1 alone
		{at(-1, 0), at(0, 1), at(5, 1), at(4, 0)},
		// this call comes at 1
		{at(0, 0), at(1, 1), at(2, 1), at(4, 0), at(0, 1)},
		{at(0, 0), at(0, 1), at(4, 0), at(5, 1)},
		{at(-1, 0), at(0, -1), at(1, -1), at(-1, 1), at(1, 2), at(-2, -2), at(-1, -2), at(-2, -1), at(math.MinInt, 0), at(math.MaxInt, 0), at(1, math.MinInt), at(1, math.MaxInt), at(math.MaxInt, math.MaxInt)},
	} {
		for _, a := range answers {
			bad := slices.Repeat([]api.Answer{never}, 5)
			bad[call] = a
			l = append(l, bad)
		}
	}
	// two calls have the same signer at the same time
	return append(l, []api.Answer{at(0, 0), at(0, 0), never, never, never}, []api.Answer{never, at(2, 1), never, never, at(2, 1)}, []api.Answer{at(3, 0), never, at(2, 0), never, at(3, 0)})
}

// isZero reports whether the functions return nothing but an error.
func (x results) isZero(e api.Errno) bool {
	lists := len(x.plan)+len(x.spots)+len(x.calls)+len(x.vital)+len(x.free) == 0
	return slices.Equal(x.errors, slices.Repeat([]api.Errno{e}, 7)) && lists && x.waits == sums{} && x.planed == sums{} && x.most == 0
}

// P1, R1, R2: the error of the studio comes before those of answers, times and languages.
func TestErrors(t *testing.T) {
	for i, s := range invalidStudios() {
		for _, answers := range append(invalidAnswers(), slices.Repeat([]api.Answer{never}, 5)) {
			for _, n := range []int{-1, 0, 4, 5, math.MinInt, math.MaxInt} {
				if got := resultsOf(s, answers, n, n, n < 0); !got.isZero(api.ErrStudio) {
					t.Errorf("%d: of %v, %v and %d: %v", i, s, answers, n, got)
				}
			}
		}
	}
}

// P1, R1, R2: answers that are not right.
func TestErrorsOfAnswers(t *testing.T) {
	for _, answers := range invalidAnswers() {
		if u, o, e := relay.Waits(studioS(), answers); u != 0 || o != 0 || e != api.ErrAnswer {
			t.Errorf("Waits of %v: %d, %d, %d", answers, u, o, e)
		}
	}
	none := changedS(func(s *api.Studio) { s.Rings = nil })
	if u, o, e := relay.Waits(none, []api.Answer{never}); u != 0 || o != 0 || e != api.ErrAnswer {
		t.Errorf("Waits of an answer to no call: %d, %d, %d", u, o, e)
	}
}

// P1, R1, R2: times that the studio does not have, and numbers of no language.
func TestErrorsOfNumbers(t *testing.T) {
	for _, n := range []int{-1, 5, 8, math.MinInt, math.MaxInt} {
		for _, urgentOnly := range []bool{false, true} {
			got := resultsOf(studioS(), nil, n, n, urgentOnly)
			if got.most != 0 || len(got.spots)+len(got.calls)+len(got.free) > 0 {
				t.Errorf("%d: %v", n, got)
			}
			if !slices.Equal(got.errors, []api.Errno{api.OK, api.ErrAnswer, api.OK, api.ErrArg, api.ErrArg, api.OK, api.ErrArg}) {
				t.Errorf("%d: errors %v", n, got.errors)
			}
		}
	}
	// the bounds of times are those of the studio, the bounds of languages are not
	short := api.Studio{Times: 1, Signers: []api.Signer{{}}}
	for n, want := range map[int]api.Errno{0: api.OK, 1: api.ErrArg, 4: api.ErrArg} {
		got := resultsOf(short, nil, n, n, false)
		if got.errors[3] != want || got.errors[4] != want || got.errors[6] != api.OK {
			t.Errorf("%d: errors %v", n, got.errors)
		}
	}
	if n, e := relay.Most(largest(), 7, false); n != 12 || e != api.OK {
		t.Errorf("Most up to the last time: %d, %d", n, e)
	}
}

// P1: extreme numbers and long slices lead to an error or to a result, never to a panic.
func TestAnyArguments(t *testing.T) {
	r := chance()
	number := func() int {
		return []int{math.MinInt, math.MinInt + 1, -2, -1, -1, 0, 0, 0, 1, 1, 2, 3, 4, 5, 8, 9, 31, 32, 1 << 40, math.MaxInt}[r.IntN(20)]
	}
	answers := func(most int) []api.Answer {
		var l []api.Answer
		for range r.IntN(most + 1) {
			l = append(l, at(number(), number()))
		}
		return l
	}
	for range 3000 {
		signer := api.Signer{Tongues: number(), From: number(), Until: number()}
		ring := api.Ring{Tongue: number(), At: number(), Urgent: r.IntN(2) == 0}
		x := api.Studio{Times: number(), Signers: slices.Repeat([]api.Signer{signer}, r.IntN(6)), Rings: slices.Repeat([]api.Ring{ring}, r.IntN(14))}
		y := changedS(func(s *api.Studio) { s.Times, s.Signers[r.IntN(2)] = number(), signer })
		z := changedS(func(s *api.Studio) { s.Rings[r.IntN(5)] = ring })
		for _, s := range []api.Studio{{}, x, y, z, studioS()} {
			resultsOf(s, answers(14), number(), number(), r.IntN(2) == 0)
			resultsOf(s, append(answers(1), slices.Repeat([]api.Answer{never}, 4)...), number(), number(), r.IntN(2) == 0)
		}
	}
}

// R4: the arguments stay as they are, and the results share no memory with them.
func TestArgumentsStay(t *testing.T) {
	// a slice with room behind its end, so that what is added there would be seen
	s, answers := studioS(), make([]api.Answer, 5)
	room := append(slices.Clone(s.Rings), call(4, 4))
	s.Rings = room[:5]
	for i := range answers {
		answers[i] = never
	}
	got := resultsOf(s, answers, 1, 0, false)
	for i := range got.plan {
		got.plan[i] = at(99, 99)
	}
	for i := range got.spots {
		got.spots[i] = api.Spot{Signer: 99, Time: 99}
	}
	for _, l := range [][]int{got.calls, got.vital, got.free} {
		for i := range l {
			l[i] = 99
		}
	}
	if !sameStudio(s, studioS()) || room[5] != call(4, 4) || !slices.Equal(answers, slices.Repeat([]api.Answer{never}, 5)) {
		t.Errorf("the arguments are changed: %v, %v, %v", s, room, answers)
	}
}
