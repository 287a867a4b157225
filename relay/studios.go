package relay

import (
	"slices"

	"handshape/api"
)

// studio is a studio that has been checked.
type studio struct{ api.Studio }

// never is the answer to a call that nobody answers.
var never = api.Answer{Time: -1, Signer: -1}

// read returns ErrStudio, or the studio that has been checked.
func read(s api.Studio) (studio, api.Errno) {
	validSigner := func(x api.Signer) bool {
		return within(x.Tongues, 0, 1<<api.MaxTongues-1) && 0 <= x.From && x.From <= x.Until && x.Until <= s.Times
	}
	validCall := func(x api.Ring) bool { return isTongue(x.Tongue) && within(x.At, 0, s.Times-1) }
	lists := allOf(s.Signers, 1, api.MaxSigners, validSigner) && allOf(s.Rings, 0, api.MaxRings, validCall)
	if !within(s.Times, 1, api.MaxTimes) || !lists {
		return studio{}, api.ErrStudio
	}
	return studio{s}, api.OK
}

// readAnswers returns the first error of a studio and its answers, or the studio.
func readAnswers(s api.Studio, answers []api.Answer) (studio, api.Errno) {
	x, e := read(s)
	if e != api.OK {
		return studio{}, e
	}
	if !x.right(answers) {
		return studio{}, api.ErrAnswer
	}
	return x, api.OK
}

// readTime returns the first error of a studio and one of its times, or the studio.
func readTime(s api.Studio, time int) (studio, api.Errno) {
	x, e := read(s)
	if e != api.OK {
		return studio{}, e
	}
	if !within(time, 0, x.Times-1) {
		return studio{}, api.ErrArg
	}
	return x, api.OK
}

func within(n, low, high int) bool { return low <= n && n <= high }

func isTongue(n int) bool { return within(n, 0, api.MaxTongues-1) }

// allOf reports whether a slice has from least to most elements, and all of them are valid.
func allOf[T any](l []T, least, most int, valid func(T) bool) bool {
	return within(len(l), least, most) && !slices.ContainsFunc(l, func(x T) bool { return !valid(x) })
}

// canAnswer reports whether the signer of a spot can answer a call at its time.
func (s studio) canAnswer(spot api.Spot, call int) bool {
	signer, ring := s.Signers[spot.Signer], s.Rings[call]
	onDuty := within(spot.Time, signer.From, signer.Until-1)
	return onDuty && signer.Tongues>>ring.Tongue&1 == 1 && ring.At <= spot.Time
}

// right reports whether answers are right.
func (s studio) right(answers []api.Answer) bool {
	if len(answers) != len(s.Rings) {
		return false
	}
	taken := map[api.Spot]bool{}
	for call, a := range answers {
		if a == never {
			continue
		}
		spot := api.Spot{Signer: a.Signer, Time: a.Time}
		if !within(a.Signer, 0, len(s.Signers)-1) || !s.canAnswer(spot, call) || taken[spot] {
			return false
		}
		taken[spot] = true
	}
	return true
}

// waiting is for how many times emergencies wait, and other calls.
type waiting struct{ urgent, other int }

func (w waiting) plus(v waiting) waiting { return waiting{w.urgent + v.urgent, w.other + v.other} }

func (w waiting) minus(v waiting) waiting { return waiting{w.urgent - v.urgent, w.other - v.other} }

// less reports whether the emergencies wait less, or the same and the others less.
func (w waiting) less(v waiting) bool {
	return w.urgent < v.urgent || w.urgent == v.urgent && w.other < v.other
}

// wait is how long a call waits that is answered at a time.
func (s studio) wait(call, time int) waiting {
	ring := s.Rings[call]
	if ring.Urgent {
		return waiting{urgent: time - ring.At}
	}
	return waiting{other: time - ring.At}
}

// waits is how long all calls wait.
func (s studio) waits(answers []api.Answer) waiting {
	var all waiting
	for call, a := range answers {
		time := a.Time
		if a == never {
			time = s.Times
		}
		all = all.plus(s.wait(call, time))
	}
	return all
}
