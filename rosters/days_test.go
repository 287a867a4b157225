package rosters_test

import (
	"math"
	"math/rand/v2"
	"slices"
	"testing"

	"handshape/api"
	"handshape/rosters"
)

// daysOf has the day D with each of some changes.
func daysOf(changes ...func(d *api.Day)) []api.Day {
	var l []api.Day
	for _, change := range changes {
		l = append(l, changedD(change))
	}
	return l
}

// invalidCrews has the day D with crews that are not valid.
func invalidCrews() []api.Day {
	return daysOf(
		func(d *api.Day) { d.Crew = api.Crew{} },
		func(d *api.Day) { d.Crew.Languages = 1 },
		func(d *api.Day) { d.Crew.Laws = d.Crew.Laws[:3] },
		func(d *api.Day) { d.Crew.People[3].Fee = 1001 },
		func(d *api.Day) { d.Crew.People = slices.Repeat(d.Crew.People, 3) },
		// without bookings the crew is checked, too
		func(d *api.Day) { d.Bookings, d.Shifts, d.Crew.Languages = nil, nil, 6 },
		func(d *api.Day) { d.Bookings, d.Shifts, d.Crew.People[0].Levels = nil, nil, nil },
	)
}

// invalidJobs has the day D with jobs that are not valid.
func invalidJobs() []api.Day {
	return daysOf(
		func(d *api.Day) { d.Bookings[0].Job = api.Job{} },
		func(d *api.Day) { d.Bookings[2].Job.To = 3 },
		func(d *api.Day) { d.Bookings[1].Job.Size = 9 },
		func(d *api.Day) { d.Bookings[2].Job.Field = -1 },
		// the jobs come before the number of bookings
		func(d *api.Day) { d.Bookings = append(d.Bookings, d.Bookings[0], api.Booking{}) },
	)
}

// invalidTravel has the day D for each bound of places and travel times, just beyond it.
func invalidTravel() []api.Day {
	l := daysOf(
		func(d *api.Day) { d.Travel = nil },
		func(d *api.Day) { d.Bookings, d.Shifts, d.Travel = nil, nil, nil },
		func(d *api.Day) { d.Bookings, d.Shifts, d.Travel = nil, nil, [][]api.Span{nil} },
		func(d *api.Day) { d.Travel = d.Travel[:1] },
		func(d *api.Day) { d.Travel[0] = d.Travel[0][:1] },
		func(d *api.Day) { d.Travel[1] = append(d.Travel[1], span(0, 0)) },
		func(d *api.Day) { d.Travel = append(d.Travel, d.Travel[1]) },
		func(d *api.Day) { d.Travel = slices.Repeat([][]api.Span{make([]api.Span, 6)}, 6) },
	)
	for _, s := range []api.Span{span(-1, 0), span(0, 301), span(2, 1), span(301, 301), span(math.MinInt, 0), span(0, math.MaxInt), span(math.MaxInt, math.MinInt)} {
		l = append(l, daysOf(func(d *api.Day) { d.Travel[1][0] = s }, func(d *api.Day) { d.Travel[0][0] = s }, func(d *api.Day) { d.Travel[1][1] = s })...)
	}
	return l
}

// invalidNumbers has the day D for each bound of bookings, rest and limit, just beyond it.
func invalidNumbers() []api.Day {
	return daysOf(
		func(d *api.Day) { d.Bookings = append(d.Bookings, d.Bookings[:2]...) },
		func(d *api.Day) { d.Bookings[0].Place = -1 }, func(d *api.Day) { d.Bookings[2].Place = 2 }, func(d *api.Day) { d.Bookings[2].Place = math.MaxInt },
		func(d *api.Day) { d.Bookings[0].Start = -1 }, func(d *api.Day) { d.Bookings[0].Start = math.MinInt },
		func(d *api.Day) { d.Bookings[0].End = 60 }, func(d *api.Day) { d.Bookings[0].End = 59 }, func(d *api.Day) { d.Bookings[1].End = math.MinInt },
		func(d *api.Day) { d.Bookings[2].End = 1441 }, func(d *api.Day) { d.Bookings[2].End = math.MaxInt },
		func(d *api.Day) { d.Bookings[2].Start, d.Bookings[2].End = 1440, 1440 },
		func(d *api.Day) { d.Rest = -1 }, func(d *api.Day) { d.Rest = 301 }, func(d *api.Day) { d.Rest = math.MinInt },
		func(d *api.Day) { d.Limit = -1 }, func(d *api.Day) { d.Limit = 1441 }, func(d *api.Day) { d.Limit = math.MaxInt },
	)
}

// invalidShifts are shifts that are not valid for the day D.
func invalidShifts() [][]api.Shift {
	l := [][]api.Shift{slices.Repeat(dayD().Shifts[:1], 31)}
	for _, x := range []api.Shift{
		assign(-1, 5, 0, 0), assign(100, 5, 0, 0), assign(9, -1, 0, 0), assign(9, 10000, 0, 0), assign(9, 5, -1, 0), assign(9, 5, 3, 0), assign(9, 5, 0, -1), assign(9, 5, 0, 4),
		assign(math.MinInt, math.MaxInt, math.MaxInt, math.MinInt),
		{Id: 9, Stamp: 5}, {Id: 9, Stamp: 5, Kind: 3}, {Id: 9, Stamp: 5, Kind: -1}, {Id: 9, Stamp: 5, Kind: math.MaxInt},
	} {
		l = append(l, []api.Shift{x}, append(dayD().Shifts, x), append([]api.Shift{x}, dayD().Shifts...))
	}
	return l
}

// invalidDays are days whose crews and jobs are valid.
func invalidDays() []api.Day {
	l := append(invalidTravel(), invalidNumbers()...)
	for _, shifts := range invalidShifts() {
		l = append(l, shifted(dayD(), shifts...))
	}
	// nobody is there to be put on a booking, and there is no booking
	return append(l, changedD(func(d *api.Day) { d.Crew.People = nil }), changedD(func(d *api.Day) { d.Bookings = nil }))
}

// clashes has shifts of the day D for each way in which two with the same Id are not equal.
func clashes() [][]api.Shift {
	var l [][]api.Shift
	for _, x := range []api.Shift{assign(4, 8, 2, 0), remove(4, 7, 2, 0), assign(4, 7, 1, 0), assign(4, 7, 2, 1)} {
		l = append(l, append(dayD().Shifts, x), append([]api.Shift{x, x}, dayD().Shifts...))
	}
	return l
}

// validDays has the day D with changes after which it is still valid.
func validDays() []api.Day {
	least := plainDay(nil, at(0, 1, 1), at(1439, 1440, 8), at(0, 1440, 1), at(0, 1440, 1))
	least.Limit = 0
	most := changed(plainDay(make([]int, 8), at(0, 1, 1)), func(d *api.Day) {
		d.Travel = slices.Repeat([][]api.Span{slices.Repeat([]api.Span{span(0, 300)}, 5)}, 5)
		d.Bookings[0].Place, d.Rest = 4, 300
		d.Shifts = append(d.Shifts, assign(0, 0, 0, 0), remove(99, 9999, 0, 7))
	})
	return []api.Day{
		dayD(), least, most, plainDay(nil), plainDay([]int{1}), shifted(dayD()),
		shifted(dayD(), slices.Repeat(dayD().Shifts, 4)...), shifted(dayD(), shiftsFrom(0, 30)...),
		changedD(func(d *api.Day) { d.Travel[0][1] = span(300, 300); d.Travel[0][0] = span(5, 9) }),
		changedD(func(d *api.Day) { d.Crew.People, d.Shifts = nil, nil }),
	}
}

// shiftsFrom are so many shifts for the booking 0 of the day D, with the Ids from one on.
func shiftsFrom(first, n int) []api.Shift {
	var l []api.Shift
	for i := range n {
		l = append(l, assign(first+i, 5, 0, 3))
	}
	return l
}

// P5.1
func TestCheck(t *testing.T) {
	for i, d := range validDays() {
		if e := rosters.Check(d); e != api.OK {
			t.Errorf("%d: Check of %v = %d", i, d, e)
		}
	}
	for want, days := range map[api.Errno][]api.Day{api.ErrCrew: invalidCrews(), api.ErrJob: invalidJobs(), api.ErrDay: invalidDays()} {
		for i, d := range days {
			if e := rosters.Check(d); e != want {
				t.Errorf("%d: Check of %v = %d, want %d", i, d, e, want)
			}
		}
	}
	for _, l := range clashes() {
		if e := rosters.Check(shifted(dayD(), l...)); e != api.ErrShifts {
			t.Errorf("Check of %v = %d", l, e)
		}
	}
}

// isZero reports whether the functions return nothing but an error.
func (x results) isZero(e api.Errno) bool {
	return x.same(results{errors: slices.Repeat([]api.Errno{e}, 9)})
}

// P1, R1, R2: the errors of the crew, the jobs, the day and the clashes come in this order, before those of all other arguments.
func TestErrors(t *testing.T) {
	jobs := func(d *api.Day) { d.Bookings = append([]api.Booking{{Start: 9}}, d.Bookings...) }
	day := func(d *api.Day) { d.Rest = -1 }
	clash := func(d *api.Day) { d.Shifts = clashes()[0] }
	same := func(*api.Day) {}
	check := func(d api.Day, want api.Errno) {
		t.Helper()
		for _, more := range append(append(invalidShifts(), clashes()...), nil, dayD().Shifts) {
			for _, n := range []int{-1, 0, 2, 3, 4, math.MinInt, math.MaxInt} {
				if got := resultsOf(d, more, n, n); !got.isZero(want) {
					t.Errorf("of %v, %v and %d: %v, want error %d", d, more, n, got, want)
				}
			}
		}
	}
	for _, change := range []func(d *api.Day){same, jobs, day, clash} {
		for _, d := range invalidCrews() {
			check(changed(d, change), api.ErrCrew)
		}
	}
	for _, change := range []func(d *api.Day){same, day, clash} {
		for _, d := range invalidJobs() {
			check(changed(d, change), api.ErrJob)
		}
	}
	for _, d := range invalidDays() {
		check(d, api.ErrDay)
	}
	check(changedD(func(d *api.Day) { clash(d); day(d) }), api.ErrDay)
	check(changedD(func(d *api.Day) { clash(d); d.Shifts[2].Person = 4 }), api.ErrDay)
	check(changedD(clash), api.ErrShifts)
}

// P1, R1, R2: bookings and people that are none of the day.
func TestErrorsOfNumbers(t *testing.T) {
	impossible := changedD(func(d *api.Day) { d.Limit = 0 })
	for _, d := range []api.Day{dayD(), impossible, plainDay(nil), plainDay([]int{1}), plainDay(nil, at(0, 1, 1))} {
		for _, n := range []int{-1, math.MinInt, math.MaxInt} {
			for _, x := range [][2]int{{n, n}, {len(d.Bookings), len(d.Crew.People)}} {
				got := resultsOf(d, nil, x[0], x[1])
				zero := len(got.routed)+len(got.free) == 0 && got.spare == 0 && got.add == 0 && got.fee == 0
				if !zero || !slices.Equal(got.errors[6:], []api.Errno{api.ErrArg, api.ErrArg, api.ErrArg}) {
					t.Errorf("of %v and %v: %v", d, x, got)
				}
			}
		}
	}
}

// P1: extreme numbers and long slices lead to an error or to a result, never to a panic.
func TestAnyArguments(t *testing.T) {
	r := chance()
	number := func() int {
		return []int{math.MinInt, math.MinInt + 1, -1, 0, 0, 1, 1, 2, 2, 3, 4, 9, 30, 99, 100, 300, 1440, 9999, math.MaxInt - 1, math.MaxInt}[r.IntN(20)]
	}
	shifts := func() []api.Shift {
		var l []api.Shift
		for range r.IntN(4) {
			l = append(l, api.Shift{Id: number(), Stamp: number(), Kind: number(), Booking: number(), Person: number()})
		}
		return l
	}
	for range 3000 {
		b := api.Booking{Job: api.Job{From: number(), To: number(), Client: number(), Field: number(), Kind: number(), Size: number()}, Place: number(), Start: number(), End: number()}
		x := api.Day{Bookings: slices.Repeat([]api.Booking{b}, r.IntN(6)), Travel: [][]api.Span{{span(number(), number())}}, Rest: number(), Limit: number(), Shifts: shifts()}
		w := x
		w.Crew = crewC()
		y := changedD(func(d *api.Day) {
			d.Rest, d.Limit, d.Travel[r.IntN(2)][r.IntN(2)] = number(), number(), span(number(), number())
		})
		z := changedD(func(d *api.Day) { d.Bookings[r.IntN(3)] = b; d.Crew.People[r.IntN(4)].Fee = number() })
		b.Job = jobK
		v := changedD(func(d *api.Day) { d.Bookings[r.IntN(3)] = b })
		for _, d := range []api.Day{{}, x, w, y, z, v, dayD(), shifted(dayD(), shifts()...)} {
			resultsOf(d, shifts(), number(), number())
		}
	}
}

// P5.2
func TestMerge(t *testing.T) {
	l := dayD().Shifts
	for i, x := range []struct{ held, more, want []api.Shift }{
		{nil, nil, nil}, {l, nil, l}, {nil, l, l}, {l, l, l}, {l[2:], l[:5], l}, {slices.Repeat(l, 4), slices.Repeat(l, 4), l},
		{[]api.Shift{l[6], l[0], l[3]}, []api.Shift{l[5], l[0]}, []api.Shift{l[0], l[3], l[5], l[6]}},
		{l, []api.Shift{assign(0, 9999, 0, 0)}, append([]api.Shift{assign(0, 9999, 0, 0)}, l...)},
		{shiftsFrom(0, 20), shiftsFrom(10, 20), shiftsFrom(0, 30)}, {shiftsFrom(70, 30), shiftsFrom(70, 30), shiftsFrom(70, 30)},
	} {
		d, e := rosters.Merge(shifted(dayD(), x.held...), x.more)
		if e != api.OK || !sameDay(d, shifted(dayD(), x.want...)) {
			t.Errorf("%d: Merge = %v, %d, want %v", i, d, e, x.want)
		}
	}
	for i, d := range validDays() {
		got, e := rosters.Merge(d, nil)
		got.Shifts, d.Shifts = nil, nil
		if e != api.OK || !sameDay(got, d) {
			t.Errorf("%d: Merge of %v = %v, %d", i, d, got, e)
		}
	}
}

// P5.2: the errors of the day with more, of the clashes of more, of too many together, of a clash together.
func TestMergeErrors(t *testing.T) {
	other := func(l []api.Shift) []api.Shift {
		l[0].Stamp++
		return l
	}
	check := func(held, more []api.Shift, want api.Errno) {
		t.Helper()
		d, e := rosters.Merge(shifted(dayD(), held...), more)
		if e != want || !sameDay(d, api.Day{}) {
			t.Errorf("Merge of %v and %v = %v, %d, want %d", held, more, d, e, want)
		}
	}
	for _, more := range invalidShifts() {
		check(nil, more, api.ErrDay)
		check(shiftsFrom(0, 30), more, api.ErrDay)
		check(clashes()[0], more, api.ErrShifts)
	}
	for _, more := range clashes() {
		check(nil, more, api.ErrShifts)
		check(shiftsFrom(20, 30), more, api.ErrShifts)
		check(more, nil, api.ErrShifts)
	}
	check(shiftsFrom(0, 20), append(other(shiftsFrom(20, 10)), shiftsFrom(20, 1)...), api.ErrShifts)
	check(shiftsFrom(0, 20), shiftsFrom(20, 11), api.ErrMany)
	check(shiftsFrom(0, 30), shiftsFrom(30, 1), api.ErrMany)
	check(shiftsFrom(0, 30), shiftsFrom(30, 30), api.ErrMany)
	// two that clash are two, so that they can be too many
	check(shiftsFrom(0, 30), other(shiftsFrom(29, 1)), api.ErrMany)
	check(shiftsFrom(0, 30), other(shiftsFrom(29, 2)), api.ErrMany)
	check(shiftsFrom(0, 29), other(shiftsFrom(28, 1)), api.ErrShifts)
	check(shiftsFrom(0, 29), slices.Repeat(other(shiftsFrom(28, 1)), 30), api.ErrShifts)
	check(dayD().Shifts, clashes()[0][7:], api.ErrShifts)
}

// R4: the arguments stay as they are, and the results share no memory with them.
func TestArgumentsStay(t *testing.T) {
	d, more := dayD(), append(make([]api.Shift, 0, 9), assign(9, 11, 1, 0), assign(8, 3, 0, 0))
	slices.Reverse(d.Shifts)
	before, beforeMore := copiedDay(d), slices.Clone(more)
	got := resultsOf(d, more, 1, 3)
	for _, l := range [][]int{got.teams, got.refused, got.served, got.routed, got.free, got.plan} {
		for i := range l {
			l[i] = 99
		}
	}
	m := got.merged
	for i := range m.Crew.People {
		clear(m.Crew.People[i].Levels)
		clear(m.Crew.People[i].Ties)
	}
	for _, row := range m.Travel {
		clear(row)
	}
	clear(m.Crew.People)
	clear(m.Crew.Laws)
	clear(m.Travel)
	clear(m.Bookings)
	clear(m.Shifts)
	if !sameDay(d, before) || !slices.Equal(more, beforeMore) {
		t.Errorf("the arguments are changed: %v, %v", d, more)
	}
}

// P5.10
func TestInAnyOrder(t *testing.T) {
	eachDay(300, func(r *rand.Rand, d api.Day) {
		if len(d.Bookings) == 0 || len(d.Crew.People) == 0 {
			return
		}
		booking, person := r.IntN(len(d.Bookings)), r.IntN(len(d.Crew.People))
		more := []api.Shift{drawShift(r, d, 1), drawShift(r, d, 2)}
		want := resultsOf(d, more, booking, person)
		if got := resultsOf(shifted(d, shuffled(r, d.Shifts)...), shuffled(r, more), booking, person); !got.same(want) {
			t.Errorf("%v in another order: %v, want %v", d, got, want)
		}
		some := shuffled(r, d.Shifts)
		cut := r.IntN(len(some) + 1)
		merged, e := rosters.Merge(shifted(d, some[:cut]...), slices.Concat(some[cut:], some[:cut/2]))
		all, _ := rosters.Merge(d, nil)
		if e != api.OK || !sameDay(merged, all) {
			t.Errorf("Merge of %v in parts: %v, %d", d, merged, e)
		}
	})
}
