package exams

import (
	"slices"

	"handshape/api"
)

// result returns the sum of the points of all items times their weights.
func (s survey) result(t truth) int {
	sum := 0
	for i, item := range s.Items {
		sum += t[i] * item.Weight
	}
	return sum
}

// grade returns how many limits are at most the result.
func (s survey) grade(t truth) int {
	result, grade := s.result(t), 0
	for _, limit := range s.Grades {
		if limit <= result {
			grade++
		}
	}
	return grade
}

// shown returns, for each grade that a possible truth has, the first one of these truths.
func (s survey) shown() map[int]truth {
	first := map[int]truth{}
	for t := range s.truths {
		grade := s.grade(t)
		if _, known := first[grade]; !known {
			first[grade] = t
		}
	}
	return first
}

// points returns the part of a truth that belongs to items.
func (s survey) points(t truth) []int {
	l := make([]int, len(s.Items))
	copy(l, t[:])
	return l
}

// nothing is a span without numbers, which becomes any other one as soon as it is joined with it.
var nothing = api.Span{Low: api.MaxResult + 1, High: -1}

// join returns the span from the lower one of the Lows to the higher one of the Highs.
func join(x, y api.Span) api.Span {
	return api.Span{Low: min(x.Low, y.Low), High: max(x.High, y.High)}
}

// with returns a span that is long enough to contain a number, too.
func with(x api.Span, n int) api.Span { return join(x, api.Span{Low: n, High: n}) }

// results returns, for each item and each number of points of it, the span of the results of the possible truths in which the item has these points.
func (s survey) results() [][]api.Span {
	spans := make([][]api.Span, len(s.Items))
	for i, item := range s.Items {
		spans[i] = slices.Repeat([]api.Span{nothing}, item.Most+1)
	}
	for t := range s.truths {
		result := s.result(t)
		for i := range s.Items {
			x := &spans[i][t[i]]
			*x = with(*x, result)
		}
	}
	return spans
}

// next returns the item for which the greatest width that one more judge can leave is the least, and this width.
func (s survey) next(err int) (item, width int) {
	for i, l := range s.results() {
		if w := widest(l, err); i == 0 || w < width {
			item, width = i, w
		}
	}
	return item, width
}

// widest returns the greatest width that a mark for an item leaves, by the results for each number of its points. What a mark below 0 leaves the mark 0 leaves, too, and what one above all points leaves the one for all points does, so that these need not be looked at; nor those that leave nothing, as the width of nothing is below 0.
func widest(l []api.Span, err int) int {
	width := 0
	for mark := range l {
		left := nothing
		for _, x := range l[max(0, mark-err):min(len(l), mark+err+1)] {
			left = join(left, x)
		}
		width = max(width, left.High-left.Low)
	}
	return width
}

// ranks returns the ranks that papers can have, by their results. Each paper can have its best result while all others have their worst ones, and the other way round.
func ranks(results []api.Span) []api.Span {
	spans := make([]api.Span, len(results))
	for i, own := range results {
		spans[i] = api.Span{Low: 1, High: 1}
		for j, other := range results {
			if other.Low > own.High {
				spans[i].Low++
			}
			if j != i && other.High > own.Low {
				spans[i].High++
			}
		}
	}
	return spans
}
