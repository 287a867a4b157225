package exams

import (
	"math/bits"

	"handshape/api"
)

// truth is the points of each item; those behind the last item are 0.
type truth [api.MaxItems]int

// biases are, for each judge, the span of the biases with which the judge is right so far; it is empty (Low is greater than High) if the judge is wrong.
type biases [api.MaxJudges]api.Span

// truths yields all possible truths, each with the set of the judges who are wrong in it; those with fewer points of the first items come first.
func (s survey) truths(yield func(t truth, wrong int) bool) {
	var t truth
	var extend func(item int, b biases) bool
	extend = func(item int, b biases) bool {
		// whoever is wrong about the first items stays so, whatever the points of the others are
		wrong := s.wrong(b)
		if bits.OnesCount(uint(wrong)) > s.Wrong {
			return true
		}
		if item == len(s.Items) {
			return yield(t, wrong)
		}
		for points := range s.Items[item].Most + 1 {
			t[item] = points
			if !extend(item+1, s.narrow(b, item, points)) {
				return false
			}
		}
		return true
	}
	extend(0, s.biases())
}

// biases returns the biases that the judges can have before any item is looked at.
func (s survey) biases() biases {
	var b biases
	for i, judge := range s.Judges {
		b[i] = judge.Bias
	}
	return b
}

// narrow returns which of the biases are left if an item has so many points.
func (s survey) narrow(b biases, item, points int) biases {
	for i, judge := range s.Judges {
		if mark := judge.Marks[item]; mark != unmarked {
			low, high := mark-points-judge.Error, mark-points+judge.Error
			b[i] = api.Span{Low: max(b[i].Low, low), High: min(b[i].High, high)}
		}
	}
	return b
}

// wrong returns the set of the judges for whom no bias is left.
func (s survey) wrong(b biases) int {
	set := 0
	for i := range s.Judges {
		if b[i].Low > b[i].High {
			set |= 1 << i
		}
	}
	return set
}

func (s survey) isPossible() bool {
	for range s.truths {
		return true
	}
	return false
}

// fewest returns the least number of judges who are wrong in any truth, whatever Wrong is.
func (s survey) fewest() int {
	for wrong := range s.Judges {
		s.Wrong = wrong
		if s.isPossible() {
			return wrong
		}
	}
	return len(s.Judges)
}

// blamed returns the set of the judges who are wrong in each possible truth.
func (s survey) blamed() int {
	set := 1<<len(s.Judges) - 1
	for _, wrong := range s.truths {
		set &= wrong
	}
	return set
}
