package licences

import (
	"maps"
	"slices"

	"handshape/api"
)

// verdicts yields all verdicts that count.
func (l *licence) verdicts(yield func(api.Act) bool) {
	for _, x := range l.Acts {
		before := func(y api.Act) bool { return y.Kind == api.Complaint && y.Ref == x.Ref && y.Day <= x.Day }
		if x.Kind == api.Verdict && slices.ContainsFunc(l.Acts, before) && !yield(x) {
			return
		}
	}
}

// inForce returns the days on which the licence is in force.
func (l *licence) inForce() *calendar[bool] {
	force := l.held()
	for x := range l.verdicts {
		force.set(lasting(x.Size, x.Day), false)
	}
	return force
}

// open returns the complaints that are open on a day, with their first days. A complaint that has been heard stays so, also if it comes again.
func (l *licence) open(day int) map[int]int {
	open := map[int]int{}
	for _, x := range l.Acts {
		if x.Kind == api.Complaint && x.Day <= day {
			first, known := open[x.Ref]
			if !known || x.Day < first {
				open[x.Ref] = x.Day
			}
		}
	}
	for x := range l.verdicts {
		if x.Day <= day {
			delete(open, x.Ref)
		}
	}
	return open
}

// late returns the complaints that are late on a day, with their first days.
func (l *licence) late(day int) map[int]int {
	late := l.open(day)
	maps.DeleteFunc(late, func(_, first int) bool { return day-first <= l.Wait })
	return late
}

// sorted returns the numbers of some complaints in ascending order.
func sorted(complaints map[int]int) []int { return slices.Sorted(maps.Keys(complaints)) }
