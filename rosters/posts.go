package rosters

import (
	"cmp"
	"slices"

	"handshape/api"
	"handshape/teams"
)

// roster is a day that has been checked, with its shifts, each once, for each booking the set of the people who keep the rules for one member, and for each person the bookings on whose teams the person is.
type roster struct {
	api.Day
	may []int
	on  [][]int
}

// post is what the last one of several shifts decides about: whether a person is wanted for a booking.
type post struct{ booking, person int }

// stand returns the roster with all people on bookings whose shifts stand, and the Ids of the shifts that do not, in ascending order.
func (r roster) stand() (stood roster, refused []int) {
	shifts := slices.SortedFunc(slices.Values(r.Shifts), func(x, y api.Shift) int {
		return cmp.Or(cmp.Compare(x.Stamp, y.Stamp), cmp.Compare(x.Id, y.Id))
	})
	deciding := map[post]api.Shift{}
	for _, x := range shifts {
		deciding[post{x.Booking, x.Person}] = x
	}
	for _, x := range shifts {
		if x.Kind != api.Assign || deciding[post{x.Booking, x.Person}] != x {
			continue
		}
		if r.canBeOn(x.Person, with(r.on[x.Person], x.Booking)) {
			r = r.put(1<<x.Person, x.Booking)
		} else {
			refused = append(refused, x.Id)
		}
	}
	slices.Sort(refused)
	return r, refused
}

// with returns some bookings and one more. Several of them can be extended from the same ones, so that none may use the capacity behind these.
func with(bookings []int, booking int) []int {
	return append(bookings[:len(bookings):len(bookings)], booking)
}

// put returns the roster with some people more on the team of a booking; the roster itself stays as it is.
func (r roster) put(people, booking int) roster {
	r.on = slices.Clone(r.on)
	for _, person := range elements(people) {
		r.on[person] = with(r.on[person], booking)
	}
	return r
}

// canBeOn reports whether a person can be on some bookings.
func (r roster) canBeOn(person int, bookings []int) bool {
	minutes := 0
	for i, booking := range bookings {
		apart := func(other int) bool { return !r.together(other, booking) }
		if !has(r.may[booking], person) || slices.ContainsFunc(bookings[:i], apart) {
			return false
		}
		minutes += r.Bookings[booking].End - r.Bookings[booking].Start
	}
	return minutes <= r.Limit
}

// together reports whether two bookings go together for a person. There are no minutes to spare between two of which the first one starts later, or at the same time, so that it need not be known which one is the first.
func (r roster) together(a, b int) bool { return r.spare(a, b) >= 0 || r.spare(b, a) >= 0 }

// spare returns how many minutes surely are left between two bookings, beside rest and travel; below 0 if they are too close.
func (r roster) spare(first, second int) int {
	a, b := r.Bookings[first], r.Bookings[second]
	return b.Start - a.End - r.Rest - r.Travel[a.Place][b.Place].High
}

// route returns the bookings on whose teams a person is, the first one first: no two of them start at the same minute.
func (r roster) route(person int) []int {
	return slices.SortedFunc(slices.Values(r.on[person]), func(a, b int) int {
		return cmp.Compare(r.Bookings[a].Start, r.Bookings[b].Start)
	})
}

// teams returns the team of each booking.
func (r roster) teams() []int {
	sets := make([]int, len(r.Bookings))
	for person, bookings := range r.on {
		for _, booking := range bookings {
			sets[booking] |= 1 << person
		}
	}
	return sets
}

// fits reports whether a team fits the job of a booking. No team of nobody does, since the least size is 1.
func (r roster) fits(booking, team int) bool {
	broken, e := teams.Broken(r.Crew, r.Bookings[booking].Job, team)
	return e == api.OK && broken == 0
}

// free returns the set of the people who are not on the team of a booking, but can be on it, too. Who is on it already is not free: a booking does not go together with itself.
func (r roster) free(booking int) int {
	set := 0
	for person, bookings := range r.on {
		if r.canBeOn(person, with(bookings, booking)) {
			set |= 1 << person
		}
	}
	return set
}

func (r roster) fee(people int) int {
	fee := 0
	for _, person := range elements(people) {
		fee += r.Crew.People[person].Fee
	}
	return fee
}

func has(set, element int) bool { return set>>element&1 == 1 }

// elements returns the elements of a set, in ascending order.
func elements(set int) []int {
	var l []int
	for i := 0; set>>i > 0; i++ {
		if has(set, i) {
			l = append(l, i)
		}
	}
	return l
}

func setOf(elements []int) int {
	set := 0
	for _, i := range elements {
		set |= 1 << i
	}
	return set
}
