package relay_test

import (
	"math/bits"
	"math/rand/v2"
	"slices"
	"testing"

	"handshape/api"
	"handshape/relay"
)

var never = api.Answer{Time: -1, Signer: -1}

// at is the answer of a signer at a time.
func at(time, signer int) api.Answer { return api.Answer{Time: time, Signer: signer} }

// call is a call that is no emergency.
func call(tongue, at int) api.Ring { return api.Ring{Tongue: tongue, At: at} }

// urgent is an emergency.
func urgent(tongue, at int) api.Ring { return api.Ring{Tongue: tongue, At: at, Urgent: true} }

// studioS is the studio S of the chapter's examples.
func studioS() api.Studio {
	return api.Studio{
		Times:   5,
		Signers: []api.Signer{{Tongues: 3, From: 0, Until: 4}, {Tongues: 2, From: 1, Until: 5}},
		Rings:   []api.Ring{call(0, 0), call(1, 0), urgent(0, 1), urgent(1, 1), call(1, 1)},
	}
}

// largest is the studio with the greatest numbers: each call can be answered by each signer at each time.
func largest() api.Studio {
	return api.Studio{
		Times:   8,
		Signers: slices.Repeat([]api.Signer{{Tongues: 31, Until: 8}}, 4),
		Rings:   slices.Concat(slices.Repeat([]api.Ring{call(4, 0)}, 6), slices.Repeat([]api.Ring{urgent(4, 0)}, 6)),
	}
}

// changed is a studio in new memory with a change.
func changed(s api.Studio, change func(s *api.Studio)) api.Studio {
	s.Signers, s.Rings = slices.Clone(s.Signers), slices.Clone(s.Rings)
	change(&s)
	return s
}

// changedS is the studio S with a change.
func changedS(change func(s *api.Studio)) api.Studio { return changed(studioS(), change) }

func sameStudio(a, b api.Studio) bool {
	return a.Times == b.Times && slices.Equal(a.Signers, b.Signers) && slices.Equal(a.Rings, b.Rings)
}

// chance draws the same numbers in each run of the tests.
func chance() *rand.Rand { return rand.New(rand.NewPCG(7, 6)) }

func drawSigner(r *rand.Rand, times, tongues int) api.Signer {
	from := r.IntN(times + 1)
	return api.Signer{Tongues: r.IntN(1 << tongues), From: from, Until: from + r.IntN(times-from+1)}
}

func drawCall(r *rand.Rand, times, tongues int) api.Ring {
	return api.Ring{Tongue: r.IntN(tongues), At: r.IntN(times), Urgent: r.IntN(2) == 0}
}

// drawStudio draws a studio with some numbers at most; with few languages many calls want the same signers.
func drawStudio(r *rand.Rand, times, signers, calls int) api.Studio {
	s := api.Studio{Times: 1 + r.IntN(times)}
	tongues := 1 + r.IntN(3)
	for range 1 + r.IntN(signers) {
		s.Signers = append(s.Signers, drawSigner(r, s.Times, tongues))
	}
	for range r.IntN(calls + 1) {
		s.Rings = append(s.Rings, drawCall(r, 1+r.IntN(s.Times), tongues))
	}
	return s
}

// eachSmall calls a function for drawn studios that have so few right answers that all of them can be gone through.
func eachSmall(times int, do func(r *rand.Rand, s api.Studio)) {
	r := chance()
	for range times {
		do(r, drawStudio(r, 4, 2, 4))
	}
}

// eachLarge calls a function for drawn studios of any size.
func eachLarge(times int, do func(r *rand.Rand, s api.Studio)) {
	r := chance()
	for range times {
		do(r, drawStudio(r, 8, 4, 12))
	}
}

// eachShort calls a function for drawn studios with many languages and short duties, in which a call often can take a spot only if several others move.
func eachShort(times int, do func(r *rand.Rand, s api.Studio)) {
	r := chance()
	for range times {
		s := api.Studio{Times: 4 + r.IntN(5)}
		for range 2 + r.IntN(3) {
			from := r.IntN(s.Times)
			s.Signers = append(s.Signers, api.Signer{Tongues: r.IntN(32), From: from, Until: min(s.Times, from+1+r.IntN(3))})
		}
		for range 3 + r.IntN(3) {
			s.Rings = append(s.Rings, drawCall(r, s.Times, 5))
		}
		do(r, s)
	}
}

// mayAnswer reports whether a signer can answer a call at a time.
func mayAnswer(s api.Studio, call int, a api.Answer) bool {
	x, r := s.Signers[a.Signer], s.Rings[call]
	return x.From <= a.Time && a.Time < x.Until && x.Tongues&(1<<r.Tongue) != 0 && r.At <= a.Time
}

// rightAnswers are all right answers.
func rightAnswers(s api.Studio) [][]api.Answer {
	all := [][]api.Answer{nil}
	for call := range s.Rings {
		var longer [][]api.Answer
		for _, l := range all {
			longer = append(longer, append(slices.Clone(l), never))
			for time := range s.Times {
				for signer := range s.Signers {
					if a := at(time, signer); mayAnswer(s, call, a) && !slices.Contains(l, a) {
						longer = append(longer, append(slices.Clone(l), a))
					}
				}
			}
		}
		all = longer
	}
	return all
}

// sums are the urgent and the other waiting.
type sums struct{ urgent, other int }

// worse reports whether a waiting is not as good as another one.
func (x sums) worse(y sums) bool {
	return x.urgent > y.urgent || x.urgent == y.urgent && x.other > y.other
}

// sumsOf are the waits of answers.
func sumsOf(s api.Studio, answers []api.Answer) sums {
	var x sums
	for i, r := range s.Rings {
		end := s.Times
		if answers[i] != never {
			end = answers[i].Time
		}
		if r.Urgent {
			x.urgent += end - r.At
		} else {
			x.other += end - r.At
		}
	}
	return x
}

// leastSums are the least waits of all right answers: spot after spot each call is tried, for each set of calls that have been answered before.
func leastSums(s api.Studio) sums {
	start := sums{}
	for _, r := range s.Rings {
		start = start.later(r, s.Times-r.At)
	}
	least := map[int]sums{0: start}
	for time := range s.Times {
		for signer := range s.Signers {
			next := map[int]sums{}
			keep := func(set int, x sums) {
				if old, ok := next[set]; !ok || old.worse(x) {
					next[set] = x
				}
			}
			for set, x := range least {
				keep(set, x)
				for i, r := range s.Rings {
					if set&(1<<i) == 0 && mayAnswer(s, i, at(time, signer)) {
						keep(set|1<<i, x.later(r, time-s.Times))
					}
				}
			}
			least = next
		}
	}
	best := start
	for _, x := range least {
		if best.worse(x) {
			best = x
		}
	}
	return best
}

// later is the waiting if a call waits longer.
func (x sums) later(r api.Ring, times int) sums {
	if r.Urgent {
		x.urgent += times
	} else {
		x.other += times
	}
	return x
}

// mostAnswered is how many calls, or emergencies, can be answered at times up to one, by any sets of calls.
func mostAnswered(s api.Studio, time int, urgentOnly bool) int {
	sets := map[int]bool{0: true}
	for t := range time + 1 {
		for signer := range s.Signers {
			next := map[int]bool{}
			for set := range sets {
				next[set] = true
				for i, r := range s.Rings {
					if (r.Urgent || !urgentOnly) && mayAnswer(s, i, at(t, signer)) {
						next[set|1<<i] = true
					}
				}
			}
			sets = next
		}
	}
	most := 0
	for set := range sets {
		most = max(most, bits.OnesCount(uint(set)))
	}
	return most
}

// planned are the waits of a plan.
func planned(t *testing.T, s api.Studio) sums {
	t.Helper()
	_, urgent, other, e := relay.Plan(s)
	if e != api.OK {
		t.Fatalf("Plan of %v: error %d", s, e)
	}
	return sums{urgent, other}
}

func mostOf(t *testing.T, s api.Studio, time int, urgentOnly bool) int {
	t.Helper()
	n, e := relay.Most(s, time, urgentOnly)
	if e != api.OK {
		t.Fatalf("Most of %v up to %d: error %d", s, time, e)
	}
	return n
}

// results are all that the functions return about a studio, answers, a time and a language.
type results struct {
	errors        []api.Errno
	waits, planed sums
	plan          []api.Answer
	most          int
	spots         []api.Spot
	calls         []int
	vital, free   []int
}

func resultsOf(s api.Studio, answers []api.Answer, time, tongue int, urgentOnly bool) results {
	var x results
	e := make([]api.Errno, 7)
	e[0] = relay.Check(s)
	x.waits.urgent, x.waits.other, e[1] = relay.Waits(s, answers)
	x.plan, x.planed.urgent, x.planed.other, e[2] = relay.Plan(s)
	x.most, e[3] = relay.Most(s, time, urgentOnly)
	x.spots, x.calls, e[4] = relay.Cover(s, time, urgentOnly)
	x.vital, e[5] = relay.Vital(s)
	x.free, e[6] = relay.Free(s, tongue)
	x.errors = e
	return x
}
