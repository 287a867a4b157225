package rosters_test

import (
	"math/rand/v2"
	"slices"
	"testing"

	"handshape/api"
	"handshape/rosters"
)

// P5.6
func TestRoute(t *testing.T) {
	d := changed(plainDay([]int{1, 1, 1}, at(100, 110, 1), at(0, 10, 1), at(60, 70, 1), at(60, 65, 1)), func(d *api.Day) {
		d.Rest = 5
		d.Travel = [][]api.Span{{span(0, 2), span(0, 30)}, {span(0, 10), span(0, 0)}}
		d.Bookings[2].Place = 1
		d.Shifts = []api.Shift{assign(1, 1, 0, 0), assign(2, 2, 1, 0), assign(3, 3, 2, 0), assign(4, 4, 3, 1), assign(5, 5, 0, 1), assign(6, 6, 1, 2), assign(7, 7, 3, 0)}
	})
	if sets := teamsOf(t, d); !slices.Equal(sets, []int{3, 5, 1, 2}) {
		t.Errorf("Teams: %v", sets)
	}
	for person, want := range [][]int{{1, 2, 0}, {3, 0}, {1}} {
		// from 10 to 60 and from 70 to 100; from 65 to 100
		spare := []int{15, 28, 1440}[person]
		if l, n, e := rosters.Route(d, person); !slices.Equal(l, want) || n != spare || e != api.OK {
			t.Errorf("Route of %d: %v, %d, %d, want %v, %d", person, l, n, e, want, spare)
		}
	}
	d.Bookings[1].End = 9
	d.Travel[1][0].High = 25
	if l, n, e := rosters.Route(d, 0); !slices.Equal(l, []int{1, 2, 0}) || n != 0 || e != api.OK {
		t.Errorf("Route with a longer way back: %v, %d, %d", l, n, e)
	}
	for _, d := range []api.Day{plainDay([]int{1}), plainDay([]int{1}, at(0, 10, 1)), plainDay([]int{1}, at(0, 720, 1), at(720, 1440, 1))} {
		if l, n, e := rosters.Route(d, 0); len(l) > 0 || n != 1440 || e != api.OK {
			t.Errorf("Route of nobody's bookings: %v, %d, %d", l, n, e)
		}
	}
	d = shifted(plainDay([]int{1}, at(720, 1440, 1), at(0, 720, 1)), assign(1, 1, 0, 0), assign(2, 2, 1, 0))
	if l, n, e := rosters.Route(d, 0); !slices.Equal(l, []int{1, 0}) || n != 0 || e != api.OK {
		t.Errorf("Route of the whole day: %v, %d, %d", l, n, e)
	}
}

// P5.6, P5.12: with any travel times some number of minutes is left between two neighbours, and with the longest ones no more.
func TestRoutes(t *testing.T) {
	eachDay(500, func(_ *rand.Rand, d api.Day) {
		sets := teamsOf(t, d)
		for person := range d.Crew.People {
			want, least := bookingsOf(d, sets, person), 1440
			for i := 1; i < len(want); i++ {
				a, b := d.Bookings[want[i-1]], d.Bookings[want[i]]
				least = min(least, b.Start-a.End-d.Rest-d.Travel[a.Place][b.Place].High)
			}
			l, n, e := rosters.Route(d, person)
			if !slices.Equal(l, want) || n != least || n < 0 || e != api.OK {
				t.Errorf("Route of %d of %v: %v, %d, %d, want %v, %d", person, d, l, n, e, want, least)
			}
		}
	})
}

// P5.7
func TestFree(t *testing.T) {
	d := plainDay([]int{1, 1, 1, 1}, at(0, 10, 1), at(5, 20, 1), at(20, 30, 1))
	d.Limit = 25
	for i, x := range []struct {
		shifts []api.Shift
		free   [][]int
	}{
		{nil, [][]int{{0, 1, 2, 3}, {0, 1, 2, 3}, {0, 1, 2, 3}}},
		{[]api.Shift{assign(1, 1, 0, 2)}, [][]int{{0, 1, 3}, {0, 1, 3}, {0, 1, 2, 3}}},
		{[]api.Shift{assign(1, 1, 1, 2), assign(2, 1, 2, 2), assign(3, 1, 2, 0)}, [][]int{{0, 1, 3}, {0, 1, 3}, {1, 3}}},
		{[]api.Shift{assign(1, 1, 1, 2), assign(2, 2, 1, 2), remove(3, 3, 1, 2), assign(4, 4, 0, 1)}, [][]int{{0, 2, 3}, {0, 2, 3}, {0, 1, 2, 3}}},
		{[]api.Shift{assign(1, 1, 0, 0), assign(2, 1, 0, 1), assign(3, 1, 0, 2), assign(4, 1, 0, 3)}, [][]int{nil, nil, {0, 1, 2, 3}}},
	} {
		for booking, want := range x.free {
			if l, e := rosters.Free(shifted(d, x.shifts...), booking); !slices.Equal(l, want) || e != api.OK {
				t.Errorf("%d: Free for %d = %v, %d, want %v", i, booking, l, e, want)
			}
		}
	}
	long := plainDay([]int{1}, at(0, 10, 1), at(10, 20, 1))
	for limit, want := range map[int][]int{20: {0}, 19: nil} {
		long.Limit = limit
		if l, e := rosters.Free(shifted(long, assign(1, 1, 0, 0)), 1); !slices.Equal(l, want) || e != api.OK {
			t.Errorf("Free with %d: %v, %d", limit, l, e)
		}
	}
}

// P5.8
func TestFill(t *testing.T) {
	for i, x := range []struct {
		d        api.Day
		add, fee int
		e        api.Errno
	}{
		{plainDay([]int{5, 3, 4}, at(0, 10, 1)), 2, 3, api.OK}, {plainDay([]int{5, 3, 4}, at(0, 10, 2)), 6, 7, api.OK}, {plainDay([]int{5, 3, 4}, at(0, 10, 3)), 7, 12, api.OK}, {plainDay([]int{5, 3, 4}, at(0, 10, 4)), 0, 0, api.ErrNone},
		// of several sets the one with the lowest number
		{plainDay([]int{3, 3, 3}, at(0, 10, 1)), 1, 3, api.OK}, {plainDay([]int{4, 3, 3}, at(0, 10, 1)), 2, 3, api.OK}, {plainDay([]int{0, 0, 0, 0}, at(0, 10, 2)), 3, 0, api.OK}, {plainDay([]int{2, 1, 2, 3, 0}, at(0, 10, 2)), 18, 1, api.OK}, {plainDay([]int{9, 2, 1, 0, 1}, at(0, 10, 2)), 12, 1, api.OK},
		// a part of the team is there
		{shifted(plainDay([]int{5, 3, 4}, at(0, 10, 2)), assign(1, 1, 0, 0)), 2, 3, api.OK}, {shifted(plainDay([]int{5, 3, 4}, at(0, 10, 2)), assign(1, 1, 0, 1)), 4, 4, api.OK},
		// served, also if people without a fee are free
		{shifted(plainDay([]int{5, 0, 0}, at(0, 10, 1)), assign(1, 1, 0, 0)), 0, 0, api.OK},
		// nobody is taken off a team that is too large
		{shifted(plainDay([]int{5, 3, 4}, at(0, 10, 1)), assign(1, 1, 0, 0), assign(2, 1, 0, 1)), 0, 0, api.ErrNone},
		// the cheapest one is somewhere else
		{shifted(plainDay([]int{5, 3, 4}, at(0, 10, 1), at(9, 19, 1)), assign(1, 1, 1, 1)), 4, 4, api.OK},
		{shifted(plainDay([]int{5}, at(0, 10, 1), at(9, 19, 1)), assign(1, 1, 1, 0)), 0, 0, api.ErrNone},
		{plainDay(nil, at(0, 10, 1)), 0, 0, api.ErrNone},
	} {
		if add, fee, e := rosters.Fill(x.d, 0); add != x.add || fee != x.fee || e != x.e {
			t.Errorf("%d: Fill = %d, %d, %d, want %d, %d, %d", i, add, fee, e, x.add, x.fee, x.e)
		}
	}
}

// withPeople is a day with some people more on a booking, for as many shifts as there is room.
func withPeople(d api.Day, booking, people int) api.Day {
	d.Shifts = slices.Clone(d.Shifts)
	for person := range d.Crew.People {
		id := 0
		for slices.ContainsFunc(d.Shifts, func(x api.Shift) bool { return x.Id == id }) {
			id++
		}
		if isIn(people, person) {
			d.Shifts = append(d.Shifts, assign(id, 50+person, booking, person))
		}
	}
	return d
}

// P5.7, P5.8, P5.14: on drawn days.
func TestFills(t *testing.T) {
	filled := 0
	eachDay(1000, func(_ *rand.Rand, d api.Day) {
		sets := teamsOf(t, d)
		for booking, team := range sets {
			var people []int
			for person := range d.Crew.People {
				if !isIn(team, person) && wantCan(d, person, append(bookingsOf(d, sets, person), booking)) {
					people = append(people, person)
				}
			}
			if l, e := rosters.Free(d, booking); !slices.Equal(l, people) || e != api.OK {
				t.Errorf("Free for %d of %v: %v, %d, want %v", booking, d, l, e, people)
			}
			want, wantFee, wantError := 0, 0, api.ErrNone
			for _, full := range fitting(d, booking) {
				added := full &^ team
				if full&team != team || added&^setOf(people) != 0 || wantError == api.OK && feeOf(d, added) >= wantFee {
					continue
				}
				want, wantFee, wantError = added, feeOf(d, added), api.OK
			}
			add, fee, e := rosters.Fill(d, booking)
			if add != want || fee != wantFee || e != wantError {
				t.Errorf("Fill for %d of %v: %d, %d, %d, want %d, %d, %d", booking, d, add, fee, e, want, wantFee, wantError)
			}
			if e != api.OK {
				continue
			}
			if served, e := rosters.Served(withPeople(d, booking, add)); !slices.Contains(served, booking) || e != api.OK {
				t.Errorf("with %d more on %d of %v %v are served, %d", add, booking, d, served, e)
			}
			filled++
		}
	})
	if filled < 500 {
		t.Errorf("on the drawn days %d bookings are filled", filled)
	}
}

// P5.9
func TestPlan(t *testing.T) {
	one, two := at(0, 10, 1), at(0, 10, 2)
	limited := func(limit int, d api.Day) api.Day {
		d.Limit = limit
		return d
	}
	// the one who is cheapest everywhere may do the last booking only if nobody else does it
	only := changed(plainDay([]int{9, 1}, at(0, 10, 1), at(5, 15, 1)), func(d *api.Day) { d.Bookings[1].Job.Field = 3; d.Crew.People[0].Fields = 1 })
	for i, x := range []struct {
		d     api.Day
		teams []int
		fee   int
	}{
		{plainDay(nil), nil, 0}, {plainDay([]int{1, 1}), nil, 0}, {plainDay([]int{2, 1}, one), []int{2}, 1}, {plainDay([]int{2, 1, 1}, two), []int{6}, 2},
		// of several the one with the lower team at the first booking
		{plainDay([]int{1, 1, 1}, one), []int{1}, 1}, {plainDay([]int{1, 1}, one, one), []int{1, 2}, 2}, {plainDay([]int{1, 1, 1}, one, one, one), []int{1, 2, 4}, 3}, {plainDay([]int{3, 1, 1}, one, one), []int{2, 4}, 2}, {plainDay([]int{1, 3, 1}, one, one), []int{1, 4}, 2},
		{plainDay([]int{0, 0, 0, 0}, two, two), []int{3, 12}, 0}, {plainDay([]int{1, 2, 3}, two, one), []int{3, 4}, 6}, {plainDay([]int{1, 2, 3}, one, two), []int{1, 6}, 6},
		// one after the other, in any order of the bookings
		{plainDay([]int{2, 1}, at(0, 10, 1), at(10, 20, 1)), []int{2, 2}, 2}, {plainDay([]int{2, 1}, at(10, 20, 1), at(0, 10, 1)), []int{2, 2}, 2}, {plainDay([]int{2, 1}, at(9, 20, 1), at(0, 10, 1)), []int{1, 2}, 3},
		{only, []int{1, 2}, 10},
		// the limit
		{limited(20, plainDay([]int{1, 9}, at(0, 10, 1), at(10, 20, 1))), []int{1, 1}, 2}, {limited(19, plainDay([]int{1, 9}, at(0, 10, 1), at(10, 20, 1))), []int{1, 2}, 10},
		{limited(20, plainDay([]int{1, 9}, at(0, 15, 1), at(20, 30, 1), at(30, 40, 1))), []int{2, 1, 1}, 11},
		// whatever the shifts are
		{shifted(plainDay([]int{2, 1}, one), assign(1, 1, 0, 0), remove(2, 2, 0, 1)), []int{2}, 1}, {shifted(plainDay([]int{2, 1}, one, one), assign(1, 1, 0, 1), assign(2, 2, 1, 1)), []int{1, 2}, 3},
		{shifted(dayD()), []int{8, 8, 3}, 110},
	} {
		if l, fee, e := rosters.Plan(x.d); !slices.Equal(l, x.teams) || fee != x.fee || e != api.OK {
			t.Errorf("%d: Plan = %v, %d, %d, want %v, %d", i, l, fee, e, x.teams, x.fee)
		}
	}
	for i, d := range []api.Day{
		plainDay(nil, one), plainDay([]int{1}, one, one), plainDay([]int{1, 1}, one, two), plainDay([]int{1}, two), limited(9, plainDay([]int{1}, one)), limited(19, plainDay([]int{1}, at(0, 10, 1), at(10, 20, 1))),
		changed(only, func(d *api.Day) { d.Bookings[0].Job.Field = 3 }), changedD(func(d *api.Day) { d.Limit = 69 }),
	} {
		if l, fee, e := rosters.Plan(d); len(l) > 0 || fee != 0 || e != api.ErrNone {
			t.Errorf("%d: Plan = %v, %d, %d", i, l, fee, e)
		}
	}
}

// planned are the shifts that put teams on a roster.
func planned(sets []int) []api.Shift {
	var l []api.Shift
	for booking, team := range sets {
		for person := range api.MaxPeople {
			if isIn(team, person) {
				l = append(l, assign(len(l), len(l)%3, booking, person))
			}
		}
	}
	return l
}

// P5.9, P5.14: on drawn days.
func TestPlans(t *testing.T) {
	found := 0
	r := chance()
	for range 1500 {
		d := drawDay(r, r.IntN(5))
		want, wantFee := wantPlan(d)
		wantError := api.OK
		if want == nil {
			wantError = api.ErrNone
		}
		l, fee, e := rosters.Plan(d)
		if !slices.Equal(l, want) || fee != wantFee || e != wantError {
			t.Errorf("Plan of %v: %v, %d, %d, want %v, %d", d, l, fee, e, want, wantFee)
		}
		if e != api.OK || len(l) == 0 {
			continue
		}
		found++
		shifts := shuffled(r, planned(l))
		if sets := teamsOf(t, shifted(d, shifts...)); !slices.Equal(sets, l) {
			t.Errorf("Teams of the plan %v of %v: %v", l, d, sets)
		}
		served, e := rosters.Served(shifted(d, shifts...))
		if len(served) != len(d.Bookings) || e != api.OK {
			t.Errorf("with the plan %v of %v %v are served, %d", l, d, served, e)
		}
	}
	if found < 200 {
		t.Errorf("%d of the drawn days have a plan", found)
	}
}

// P1, P5.9: the most choices of teams that there are: any four of eight people for each of four bookings.
func TestManyChoices(t *testing.T) {
	d := plainDay([]int{8, 7, 6, 5, 4, 3, 2, 1}, at(0, 10, 4), at(10, 20, 4), at(20, 30, 4), at(30, 40, 4))
	if l, fee, e := rosters.Plan(d); !slices.Equal(l, []int{240, 240, 240, 240}) || fee != 40 || e != api.OK {
		t.Errorf("Plan: %v, %d, %d", l, fee, e)
	}
	d.Limit = 20
	if l, fee, e := rosters.Plan(d); !slices.Equal(l, []int{15, 15, 240, 240}) || fee != 72 || e != api.OK {
		t.Errorf("Plan with two bookings for each: %v, %d, %d", l, fee, e)
	}
	// two for each, but all but one for the last booking
	d.Bookings[3].Job.Size = 7
	if l, _, e := rosters.Plan(d); len(l) > 0 || e != api.ErrNone {
		t.Errorf("Plan of too much: %v, %d", l, e)
	}
}
