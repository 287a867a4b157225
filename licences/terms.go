package licences

import (
	"slices"

	"handshape/api"
)

// calendar has something for each day from 0 to MaxDay.
type calendar[T any] [api.MaxDay + 1]T

// on returns what a calendar has for some days; for those after MaxDay it has nothing.
func (c *calendar[T]) on(days api.Span) []T {
	return c[min(days.Low, len(c)):min(days.High+1, len(c))]
}

// set gives the same to some days.
func (c *calendar[T]) set(days api.Span, to T) {
	part := c.on(days)
	for i := range part {
		part[i] = to
	}
}

// spans returns the days that are in a calendar, as few spans as possible.
func spans(c *calendar[bool]) []api.Span {
	var l []api.Span
	for day, is := range c {
		switch {
		case !is:
		case day > 0 && c[day-1]:
			l[len(l)-1].High = day
		default:
			l = append(l, api.Span{Low: day, High: day})
		}
	}
	return l
}

// term is a term of a licence, and its points. Its days can go on after MaxDay.
type term struct {
	api.Span
	points int
}

// lasting returns the span of so many days from a day on.
func lasting(days, from int) api.Span { return api.Span{Low: from, High: from + days - 1} }

// since returns the days from a day to MaxDay.
func since(day int) api.Span { return api.Span{Low: day, High: api.MaxDay} }

// nextExam returns the first one of some days on which there is an exam that is passed, or the day after them.
func (l *licence) nextExam(days api.Span) int {
	if i := slices.Index(l.exams.on(days), true); i >= 0 {
		return days.Low + i
	}
	return days.High + 1
}

// term returns the term that begins on a day.
func (l *licence) term(first int) term {
	t := term{Span: lasting(l.Term, first)}
	t.High = l.nextExam(api.Span{Low: t.Low + 1, High: t.High}) - 1
	for _, n := range l.courses.on(t.Span) {
		t.points += n
	}
	return t
}

// terms yields all terms that begin up to MaxDay, in ascending order. On the day after a term with enough points the next one begins; whether that is so after a term that an exam cuts makes no difference, as the exam is on this day.
func (l *licence) terms(yield func(term) bool) {
	next := l.nextExam(since(0))
	for next <= api.MaxDay {
		t := l.term(next)
		if !yield(t) {
			return
		}
		next = t.High + 1
		if t.points < l.Points {
			next = l.nextExam(since(next))
		}
	}
}

// held returns the days on which the licence is held.
func (l *licence) held() *calendar[bool] {
	var held calendar[bool]
	for t := range l.terms {
		held.set(t.Span, true)
	}
	return &held
}

// with returns the licence with the courses of a set of offers as acts, too.
func (l *licence) with(offers []api.Offer, set int) *licence {
	more := *l
	for i, x := range offers {
		if set>>i&1 == 1 {
			more.courses[x.Day] += x.Points
		}
	}
	return &more
}

// price returns the sum of the prices of a set of offers.
func price(offers []api.Offer, set int) int {
	sum := 0
	for i, x := range offers {
		if set>>i&1 == 1 {
			sum += x.Price
		}
	}
	return sum
}

// plan returns the first one of the sets of offers with the least price with which the licence is held on some days, this price, and whether there is one.
func (l *licence) plan(offers []api.Offer, days api.Span) (set, least int, found bool) {
	for other := range 1 << len(offers) {
		n := price(offers, other)
		if found && n >= least {
			continue
		}
		held := l.with(offers, other).held()
		if !slices.Contains(held.on(days), false) {
			set, least, found = other, n, true
		}
	}
	return set, least, found
}
