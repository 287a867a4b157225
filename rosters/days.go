package rosters

import (
	"cmp"
	"slices"

	"handshape/api"
	"handshape/teams"
)

// read returns the first error of a day, or its roster, on which nobody is put on a booking so far.
func read(d api.Day) (roster, api.Errno) {
	if e := checkJobs(d); e != api.OK {
		return roster{}, e
	}
	if !validDay(d) {
		return roster{}, api.ErrDay
	}
	shifts, clash := gather(d.Shifts)
	if clash {
		return roster{}, api.ErrShifts
	}
	r := roster{Day: d, on: make([][]int, len(d.Crew.People))}
	r.Shifts = shifts
	for _, b := range d.Bookings {
		people, _ := teams.May(d.Crew, b.Job)
		r.may = append(r.may, setOf(people))
	}
	return r, api.OK
}

// readTeams returns the first error of a day, or its roster with the teams of all bookings.
func readTeams(d api.Day) (roster, api.Errno) {
	r, e := read(d)
	if e != api.OK {
		return roster{}, e
	}
	stood, _ := r.stand()
	return stood, api.OK
}

// readBooking returns the first error of a day and a booking, or the day's roster with the teams of all bookings.
func readBooking(d api.Day, booking int) (roster, api.Errno) {
	r, e := readTeams(d)
	if e != api.OK {
		return roster{}, e
	}
	if !within(booking, 0, len(r.Bookings)-1) {
		return roster{}, api.ErrArg
	}
	return r, api.OK
}

// checkJobs returns the first error of the crew and the jobs of a day.
func checkJobs(d api.Day) api.Errno {
	// This job is valid for each valid crew, so that a crew without bookings is checked, too, and its error comes before those of all jobs.
	if e := teams.Check(d.Crew, api.Job{To: 1, Size: 1}); e != api.OK {
		return e
	}
	for _, b := range d.Bookings {
		if e := teams.Check(d.Crew, b.Job); e != api.OK {
			return e
		}
	}
	return api.OK
}

func within(n, low, high int) bool { return low <= n && n <= high }

// allOf reports whether a slice has from least to most elements, and all of them are valid.
func allOf[T any](l []T, least, most int, valid func(T) bool) bool {
	return within(len(l), least, most) && !slices.ContainsFunc(l, func(x T) bool { return !valid(x) })
}

// validDay reports whether a day is valid whose crew and jobs are.
func validDay(d api.Day) bool {
	places := len(d.Travel)
	validRow := func(row []api.Span) bool { return allOf(row, places, places, validTravel) }
	validBooking := func(b api.Booking) bool {
		return within(b.Place, 0, places-1) && 0 <= b.Start && b.Start < b.End && b.End <= api.MaxMinute
	}
	validShift := func(x api.Shift) bool {
		message := within(x.Id, 0, api.MaxShift) && within(x.Stamp, 0, api.MaxStamp) && within(x.Kind, api.Assign, api.Remove)
		return message && within(x.Booking, 0, len(d.Bookings)-1) && within(x.Person, 0, len(d.Crew.People)-1)
	}
	lists := allOf(d.Travel, 1, api.MaxPlaces, validRow) && allOf(d.Bookings, 0, api.MaxBookings, validBooking)
	numbers := within(d.Rest, 0, api.MaxRest) && within(d.Limit, 0, api.MaxMinute)
	return lists && numbers && allOf(d.Shifts, 0, api.MaxShifts, validShift)
}

func validTravel(s api.Span) bool {
	return 0 <= s.Low && s.Low <= s.High && s.High <= api.MaxTravel
}

// gather returns all different shifts, ordered by Id, and whether some of them clash.
func gather(l []api.Shift) (all []api.Shift, clash bool) {
shifts:
	for _, x := range l {
		for _, y := range all {
			if x == y {
				continue shifts
			}
			clash = clash || x.Id == y.Id
		}
		all = append(all, x)
	}
	slices.SortFunc(all, func(x, y api.Shift) int { return cmp.Compare(x.Id, y.Id) })
	return all, clash
}

// copied returns a day in new memory.
func copied(d api.Day) api.Day {
	d.Crew.People = slices.Clone(d.Crew.People)
	for i, p := range d.Crew.People {
		d.Crew.People[i].Levels = slices.Clone(p.Levels)
		d.Crew.People[i].Ties = slices.Clone(p.Ties)
	}
	d.Crew.Laws = slices.Clone(d.Crew.Laws)
	d.Travel = slices.Clone(d.Travel)
	for i, row := range d.Travel {
		d.Travel[i] = slices.Clone(row)
	}
	d.Bookings = slices.Clone(d.Bookings)
	d.Shifts = slices.Clone(d.Shifts)
	return d
}
