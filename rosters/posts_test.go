package rosters_test

import (
	"math/rand/v2"
	"slices"
	"testing"

	"handshape/api"
	"handshape/rosters"
)

// TestExamples has the table of the chapter's examples, and the row of package rosters in the document's section Examples.
func TestExamples(t *testing.T) {
	d := dayD()
	got := resultsOf(d, nil, 0, 3)
	if !slices.Equal(got.teams, []int{8, 8, 3}) || !slices.Equal(got.refused, []int{3}) || !slices.Equal(got.served, []int{0, 1, 2}) {
		t.Errorf("Teams, Refused and Served: %v, %v, %v", got.teams, got.refused, got.served)
	}
	if !slices.Equal(got.plan, []int{8, 8, 3}) || got.planned != 110 {
		t.Errorf("Plan: %v, %d", got.plan, got.planned)
	}
	if slices.ContainsFunc(got.errors, func(e api.Errno) bool { return e != api.OK }) {
		t.Errorf("errors: %v", got.errors)
	}
	for person, want := range map[int][]int{3: {0, 1}, 0: {2}} {
		spare := map[int]int{3: 0, 0: 1440}[person]
		if l, n, e := rosters.Route(d, person); !slices.Equal(l, want) || n != spare || e != api.OK {
			t.Errorf("Route of %d: %v, %d, %d", person, l, n, e)
		}
	}
	for booking, want := range [][]int{{0, 1, 2}, nil, nil} {
		if l, e := rosters.Free(d, booking); !slices.Equal(l, want) || e != api.OK {
			t.Errorf("Free for %d: %v, %d", booking, l, e)
		}
	}
	d.Shifts = slices.Delete(d.Shifts, 1, 2)
	if add, fee, e := rosters.Fill(d, 1); add != 8 || fee != 10 || e != api.OK {
		t.Errorf("Fill: %d, %d, %d", add, fee, e)
	}
}

// stands checks the teams and the refused shifts of a day.
func stands(t *testing.T, d api.Day, wantTeams, wantRefused []int) {
	t.Helper()
	refused, e := rosters.Refused(d)
	if sets := teamsOf(t, d); !slices.Equal(sets, wantTeams) || !slices.Equal(refused, wantRefused) || e != api.OK {
		t.Errorf("Teams and Refused of %v: %v, %v, %d, want %v, %v", d, sets, refused, e, wantTeams, wantRefused)
	}
}

// P5.3, P5.4: the last shift of somebody for a booking decides, by Stamp and then by Id.
func TestDeciding(t *testing.T) {
	d := plainDay([]int{1, 1}, at(0, 10, 1), at(5, 15, 1), at(20, 30, 1))
	for _, x := range []struct {
		shifts         []api.Shift
		teams, refused []int
	}{
		{nil, []int{0, 0, 0}, nil},
		{[]api.Shift{assign(1, 1, 0, 0)}, []int{1, 0, 0}, nil}, {[]api.Shift{assign(1, 1, 0, 1)}, []int{2, 0, 0}, nil},
		{[]api.Shift{assign(1, 1, 2, 0), assign(2, 1, 2, 1)}, []int{0, 0, 3}, nil},
		{[]api.Shift{remove(1, 1, 0, 0)}, []int{0, 0, 0}, nil},
		{[]api.Shift{assign(1, 1, 0, 0), remove(2, 2, 0, 0)}, []int{0, 0, 0}, nil},
		{[]api.Shift{assign(2, 1, 0, 0), remove(1, 2, 0, 0)}, []int{0, 0, 0}, nil},
		{[]api.Shift{assign(1, 2, 0, 0), remove(2, 1, 0, 0)}, []int{1, 0, 0}, nil},
		{[]api.Shift{assign(1, 1, 0, 0), remove(2, 1, 0, 0)}, []int{0, 0, 0}, nil},
		{[]api.Shift{assign(2, 1, 0, 0), remove(1, 1, 0, 0)}, []int{1, 0, 0}, nil},
		{[]api.Shift{assign(1, 1, 0, 0), remove(2, 2, 0, 1), remove(3, 2, 1, 0)}, []int{1, 0, 0}, nil},
		{[]api.Shift{assign(1, 1, 0, 0), remove(2, 2, 0, 0), assign(3, 3, 0, 0)}, []int{1, 0, 0}, nil},
		// two at the same time: the first one stands, of one Stamp the one with the lower Id
		{[]api.Shift{assign(1, 1, 0, 0), assign(2, 2, 1, 0)}, []int{1, 0, 0}, []int{2}},
		{[]api.Shift{assign(1, 2, 0, 0), assign(2, 1, 1, 0)}, []int{0, 1, 0}, []int{1}},
		{[]api.Shift{assign(1, 1, 0, 0), assign(2, 1, 1, 0)}, []int{1, 0, 0}, []int{2}},
		{[]api.Shift{assign(2, 1, 0, 0), assign(1, 1, 1, 0)}, []int{0, 1, 0}, []int{2}},
		// somebody else can be on the other one
		{[]api.Shift{assign(1, 1, 0, 0), assign(2, 2, 1, 1)}, []int{1, 2, 0}, nil},
		// who is taken off and put on again comes later
		{[]api.Shift{assign(1, 1, 0, 0), assign(2, 2, 1, 0), remove(3, 3, 0, 0), assign(4, 4, 0, 0)}, []int{0, 1, 0}, []int{4}},
		{[]api.Shift{assign(1, 1, 0, 0), assign(2, 2, 1, 0), assign(3, 3, 0, 0)}, []int{0, 1, 0}, []int{3}},
		{[]api.Shift{assign(1, 1, 0, 0), assign(2, 2, 1, 0), remove(3, 3, 0, 0)}, []int{0, 1, 0}, nil},
		// a refused shift takes no room, and the Ids of all come in ascending order
		{[]api.Shift{assign(7, 1, 0, 0), assign(6, 2, 1, 0), assign(5, 3, 2, 0), assign(4, 4, 1, 1), assign(3, 5, 0, 1)}, []int{1, 2, 1}, []int{3, 6}},
	} {
		stands(t, shifted(d, x.shifts...), x.teams, x.refused)
		slices.Reverse(x.shifts)
		stands(t, shifted(d, append(x.shifts, x.shifts...)...), x.teams, x.refused)
	}
}

// twoOf is a day on which somebody is put on the booking 0, and then on the booking 1.
func twoOf(change func(d *api.Day), bookings ...api.Booking) api.Day {
	return changed(plainDay([]int{1}, bookings...), func(d *api.Day) {
		d.Shifts = []api.Shift{assign(1, 1, 0, 0), assign(2, 2, 1, 0)}
		d.Travel = [][]api.Span{{span(0, 0), span(0, 20)}, {span(0, 30), span(7, 9)}}
		change(d)
	})
}

// P5.3: two bookings go together if there is the time for the rest and for the longest travel between them, in this direction.
func TestTogether(t *testing.T) {
	there := func(b api.Booking) api.Booking {
		b.Place = 1
		return b
	}
	same := func(*api.Day) {}
	rest := func(d *api.Day) { d.Rest = 5 }
	both, first := []int{1, 1}, []int{1, 0}
	for i, x := range []struct {
		d     api.Day
		teams []int
	}{
		{twoOf(same, at(0, 10, 1), at(10, 20, 1)), both}, {twoOf(same, at(0, 10, 1), at(9, 20, 1)), first}, {twoOf(same, at(0, 10, 1), at(0, 10, 1)), first},
		{twoOf(same, at(10, 20, 1), at(0, 10, 1)), both}, {twoOf(same, at(9, 20, 1), at(0, 10, 1)), first}, {twoOf(same, at(0, 30, 1), at(10, 20, 1)), first}, {twoOf(same, at(10, 20, 1), at(0, 30, 1)), first},
		{twoOf(rest, at(0, 10, 1), at(15, 20, 1)), both}, {twoOf(rest, at(0, 10, 1), at(14, 20, 1)), first}, {twoOf(rest, at(15, 20, 1), at(0, 10, 1)), both}, {twoOf(rest, at(14, 20, 1), at(0, 10, 1)), first},
		// from 0 to 1, from 1 to 0, and from 1 to 1
		{twoOf(same, at(0, 10, 1), there(at(30, 40, 1))), both}, {twoOf(same, at(0, 10, 1), there(at(29, 40, 1))), first}, {twoOf(same, there(at(30, 40, 1)), at(0, 10, 1)), both}, {twoOf(same, there(at(29, 40, 1)), at(0, 10, 1)), first},
		{twoOf(same, there(at(0, 10, 1)), at(40, 50, 1)), both}, {twoOf(same, there(at(0, 10, 1)), at(39, 50, 1)), first}, {twoOf(same, at(40, 50, 1), there(at(0, 10, 1))), both}, {twoOf(same, at(39, 50, 1), there(at(0, 10, 1))), first},
		{twoOf(same, there(at(0, 10, 1)), there(at(19, 20, 1))), both}, {twoOf(same, there(at(0, 10, 1)), there(at(18, 20, 1))), first},
		{twoOf(rest, at(0, 10, 1), there(at(35, 40, 1))), both}, {twoOf(rest, at(0, 10, 1), there(at(34, 40, 1))), first},
	} {
		if sets := teamsOf(t, x.d); !slices.Equal(sets, x.teams) {
			t.Errorf("%d: Teams of %v: %v, want %v", i, x.d, sets, x.teams)
		}
	}
	// each two must go together, not only neighbours: the way from the place 0 to the place 1 is shorter over the place 2
	d := changed(plainDay([]int{1}, at(0, 10, 1), at(10, 20, 1), there(at(20, 30, 1))), func(d *api.Day) {
		d.Bookings[1].Place = 2
		d.Travel = [][]api.Span{{{}, span(0, 11), {}}, {{}, {}, {}}, {{}, {}, {}}}
		d.Shifts = []api.Shift{assign(1, 1, 0, 0), assign(2, 2, 1, 0), assign(3, 3, 2, 0)}
	})
	stands(t, d, []int{1, 1, 0}, []int{3})
	d.Travel[0][1].High = 10
	stands(t, d, []int{1, 1, 1}, nil)
}

// P5.3: the limit counts the minutes of all bookings, and includes itself.
func TestLimit(t *testing.T) {
	d := plainDay([]int{1, 1}, at(0, 10, 1), at(20, 60, 1), at(60, 90, 1))
	d.Shifts = []api.Shift{assign(1, 1, 0, 0), assign(2, 2, 1, 0), assign(3, 3, 2, 0), assign(4, 4, 2, 1)}
	for limit, want := range map[int][]int{
		1440: {1, 1, 3}, 80: {1, 1, 3}, 79: {1, 1, 2}, 50: {1, 1, 2},
		// a booking that is too long leaves room for a shorter one
		49: {1, 0, 3}, 40: {1, 0, 3}, 39: {1, 0, 2}, 30: {1, 0, 2}, 29: {1, 0, 0}, 10: {1, 0, 0}, 9: {0, 0, 0}, 0: {0, 0, 0},
	} {
		d.Limit = limit
		if sets := teamsOf(t, d); !slices.Equal(sets, want) {
			t.Errorf("Teams with %d: %v, want %v", limit, sets, want)
		}
	}
}

// P5.3, P5.11: nobody is on a team against the rules 0, 1 and 2.
func TestAlone(t *testing.T) {
	for i, change := range []func(d *api.Day){
		func(d *api.Day) { d.Bookings[0].Job.Client = 7; d.Crew.People[0].Ties = []int{3, 7} },
		func(d *api.Day) { d.Bookings[0].Job.Field = 3; d.Crew.People[0].Fields = 255 - 8 },
		func(d *api.Day) { d.Bookings[0].Job.Kind = 2; d.Crew.People[0].Clears = 255 - 4 },
	} {
		d := changed(plainDay([]int{1, 1}, at(0, 10, 1), at(10, 20, 1)), change)
		d.Shifts = []api.Shift{assign(1, 1, 0, 0), assign(2, 2, 0, 1), assign(3, 3, 1, 0)}
		stands(t, d, []int{2, 1}, []int{1})
		if l, e := rosters.Free(shifted(d), 0); !slices.Equal(l, []int{1}) || e != api.OK {
			t.Errorf("%d: Free: %v, %d", i, l, e)
		}
	}
	// the rules 3, 4 and 5 are for teams: whoever keeps the others can be on them
	d := changed(plainDay([]int{1, 1}, at(0, 10, 1)), func(d *api.Day) {
		d.Crew.People[0].Levels, d.Crew.Laws[0].Deaf = []int{0, 0}, true
		d.Shifts = []api.Shift{assign(1, 1, 0, 0), assign(2, 2, 0, 1)}
	})
	stands(t, d, []int{3}, nil)
}

// P5.5
func TestServed(t *testing.T) {
	sized := func(size int) api.Day {
		d := plainDay([]int{1, 1, 1}, at(0, 10, size), at(10, 20, 1), at(20, 30, 2))
		return shifted(d, assign(1, 1, 2, 0), assign(2, 2, 2, 1), assign(3, 3, 0, 0), assign(4, 4, 0, 2))
	}
	deaf := changed(sized(2), func(d *api.Day) { d.Crew.Laws[0].Deaf = true; d.Crew.People[2].Deaf = true })
	apart := changed(sized(2), func(d *api.Day) {
		d.Crew.People[0].Levels, d.Crew.People[1].Levels = []int{5, 0}, []int{0, 5}
	})
	large := changed(sized(1), func(d *api.Day) { d.Crew.Laws[0].Size = 2 })
	for i, x := range []struct {
		d    api.Day
		want []int
	}{{sized(1), []int{2}}, {sized(2), []int{0, 2}}, {sized(3), []int{2}}, {large, []int{0, 2}}, {deaf, []int{0}}, {apart, []int{0}}, {plainDay(nil), nil}, {plainDay(nil, at(0, 10, 1)), nil}, {shifted(sized(1)), nil}} {
		if l, e := rosters.Served(x.d); !slices.Equal(l, x.want) || e != api.OK {
			t.Errorf("%d: Served = %v, %d, want %v", i, l, e, x.want)
		}
	}
}

// P5.3, P5.4, P5.5: on drawn days.
func TestStands(t *testing.T) {
	refusals, serves := 0, 0
	eachDay(2000, func(_ *rand.Rand, d api.Day) {
		sets, refused := wantTeams(d)
		stands(t, d, sets, refused)
		var want []int
		for booking, team := range sets {
			if slices.Contains(fitting(d, booking), team) {
				want = append(want, booking)
			}
		}
		if l, e := rosters.Served(d); !slices.Equal(l, want) || e != api.OK {
			t.Errorf("Served of %v: %v, %d, want %v", d, l, e, want)
		}
		refusals += len(refused)
		serves += len(want)
	})
	if refusals < 500 || serves < 300 {
		t.Errorf("on the drawn days %d shifts are refused, and %d bookings served", refusals, serves)
	}
}

// P5.11, P5.12
func TestRested(t *testing.T) {
	pairs := 0
	eachDay(500, func(r *rand.Rand, d api.Day) {
		sets := teamsOf(t, d)
		for person, p := range d.Crew.People {
			minutes, until, place := 0, -1, 0
			for i, booking := range bookingsOf(d, sets, person) {
				b := d.Bookings[booking]
				if slices.Contains(p.Ties, b.Job.Client) || !isIn(p.Fields, b.Job.Field) || !isIn(p.Clears, b.Job.Kind) {
					t.Errorf("%d is on %d of %v", person, booking, d)
				}
				if i > 0 {
					pairs++
					travel := d.Travel[place][b.Place]
					took := travel.Low + r.IntN(travel.High-travel.Low+1)
					if until+d.Rest+took > b.Start {
						t.Errorf("%d comes to %d of %v too late", person, booking, d)
					}
				}
				minutes, until, place = minutes+b.End-b.Start, b.End, b.Place
			}
			if minutes > d.Limit {
				t.Errorf("%d signs for %d minutes of %v", person, minutes, d)
			}
		}
	})
	if pairs < 100 {
		t.Errorf("the drawn days have %d pairs of bookings of somebody", pairs)
	}
}

// wanted reports whether a person is wanted for a booking.
func wanted(d api.Day, booking, person int) bool {
	last := api.Shift{Stamp: -1}
	for _, x := range d.Shifts {
		later := x.Stamp > last.Stamp || x.Stamp == last.Stamp && x.Id > last.Id
		if later && x.Booking == booking && x.Person == person {
			last = x
		}
	}
	return last.Kind == api.Assign
}

// P5.13
func TestTakenOff(t *testing.T) {
	eachDay(500, func(r *rand.Rand, d api.Day) {
		if len(d.Bookings) == 0 || len(d.Crew.People) == 0 {
			return
		}
		booking, person := r.IntN(len(d.Bookings)), r.IntN(len(d.Crew.People))
		free := 0
		for slices.ContainsFunc(d.Shifts, func(x api.Shift) bool { return x.Id == free }) {
			free++
		}
		off := shifted(d, append(d.Shifts, remove(free, 100, booking, person))...)
		if sets := teamsOf(t, off); isIn(sets[booking], person) {
			t.Errorf("%d is on %d of %v", person, booking, off)
		}
		before, after := teamsOf(t, d), teamsOf(t, shifted(d, append(d.Shifts, assign(free, 100, booking, person))...))
		again := wanted(d, booking, person)
		for other := range d.Bookings {
			for somebody := range d.Crew.People {
				touched := somebody == person && (other == booking || again)
				if !touched && isIn(before[other], somebody) != isIn(after[other], somebody) {
					t.Errorf("%d on %d of %v is changed by an assignment of %d to %d", somebody, other, d, person, booking)
				}
			}
		}
	})
}
