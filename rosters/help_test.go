package rosters_test

import (
	"cmp"
	"math/rand/v2"
	"slices"
	"testing"

	"handshape/api"
	"handshape/rosters"
	"handshape/teams"
)

func span(low, high int) api.Span { return api.Span{Low: low, High: high} }

func assign(id, stamp, booking, person int) api.Shift {
	return api.Shift{Id: id, Stamp: stamp, Kind: api.Assign, Booking: booking, Person: person}
}

func remove(id, stamp, booking, person int) api.Shift {
	return api.Shift{Id: id, Stamp: stamp, Kind: api.Remove, Booking: booking, Person: person}
}

// crewC is the crew C of the examples of the chapter 3.
func crewC() api.Crew {
	return api.Crew{
		Languages: 3,
		People: []api.Person{
			{Levels: []int{5, 4, 0}, Fields: 3, Clears: 15, Fee: 50},
			{Levels: []int{0, 5, 3}, Fields: 3, Clears: 15, Deaf: true, Fee: 40},
			{Levels: []int{4, 0, 4}, Fields: 1, Clears: 3, Ties: []int{7}, Fee: 30},
			{Levels: []int{3, 3, 3}, Fields: 255, Clears: 1, Fee: 10},
		},
		Laws: []api.Law{{Level: 2, Size: 1}, {Level: 4, Size: 2}, {Level: 3, Size: 2, Deaf: true}, {Level: 5, Size: 1}},
	}
}

// The jobs J and K of the examples of the chapter 3.
var (
	jobJ = api.Job{From: 0, To: 2, Client: 7, Field: 1, Kind: 2, Size: 1}
	jobK = api.Job{From: 0, To: 2, Client: 3, Field: 0, Kind: 0, Size: 1}
)

// dayD is the day D of the chapter's examples.
func dayD() api.Day {
	legal := jobK
	legal.Field = 1
	return api.Day{
		Crew:   crewC(),
		Travel: [][]api.Span{{span(0, 0), span(10, 20)}, {span(10, 25), span(0, 0)}},
		Bookings: []api.Booking{
			{Job: jobK, Place: 0, Start: 60, End: 120}, {Job: legal, Place: 1, Start: 150, End: 200}, {Job: jobJ, Place: 0, Start: 230, End: 300},
		},
		Rest: 10, Limit: 140,
		Shifts: []api.Shift{assign(1, 5, 0, 3), assign(2, 6, 1, 3), assign(3, 4, 2, 2), assign(4, 7, 2, 0), assign(5, 8, 2, 1), assign(6, 9, 0, 2), remove(7, 10, 0, 2)},
	}
}

// changed is a day in new memory with a change.
func changed(d api.Day, change func(d *api.Day)) api.Day {
	d = copiedDay(d)
	change(&d)
	return d
}

func changedD(change func(d *api.Day)) api.Day { return changed(dayD(), change) }

// shifted is a day with other shifts.
func shifted(d api.Day, l ...api.Shift) api.Day {
	d.Shifts = l
	return d
}

// plainDay is a day at one place, without travel, rest and shifts, of people who may do all jobs, with some fees.
func plainDay(fees []int, bookings ...api.Booking) api.Day {
	law := api.Law{Level: 1, Size: 1}
	d := api.Day{Crew: api.Crew{Languages: 2, Laws: []api.Law{law, law, law, law}}, Travel: [][]api.Span{{span(0, 0)}}, Bookings: bookings, Limit: 1440}
	for _, fee := range fees {
		d.Crew.People = append(d.Crew.People, api.Person{Levels: []int{5, 5}, Fields: 255, Clears: 255, Fee: fee})
	}
	return d
}

// at is a booking for a team of some size, at the place 0.
func at(start, end, size int) api.Booking {
	return api.Booking{Job: api.Job{From: 0, To: 1, Size: size}, Start: start, End: end}
}

// copiedDay is a day in new memory.
func copiedDay(d api.Day) api.Day {
	d.Crew.People, d.Crew.Laws = slices.Clone(d.Crew.People), slices.Clone(d.Crew.Laws)
	for i := range d.Crew.People {
		p := &d.Crew.People[i]
		p.Levels, p.Ties = slices.Clone(p.Levels), slices.Clone(p.Ties)
	}
	d.Travel, d.Bookings, d.Shifts = slices.Clone(d.Travel), slices.Clone(d.Bookings), slices.Clone(d.Shifts)
	for i := range d.Travel {
		d.Travel[i] = slices.Clone(d.Travel[i])
	}
	return d
}

func sameDay(a, b api.Day) bool {
	samePerson := func(p, q api.Person) bool {
		lists := slices.Equal(p.Levels, q.Levels) && slices.Equal(p.Ties, q.Ties)
		return lists && p.Fields == q.Fields && p.Clears == q.Clears && p.Deaf == q.Deaf && p.Fee == q.Fee
	}
	crew := a.Crew.Languages == b.Crew.Languages && slices.EqualFunc(a.Crew.People, b.Crew.People, samePerson) && slices.Equal(a.Crew.Laws, b.Crew.Laws)
	travel := slices.EqualFunc(a.Travel, b.Travel, slices.Equal[[]api.Span])
	lists := slices.Equal(a.Bookings, b.Bookings) && slices.Equal(a.Shifts, b.Shifts)
	return crew && travel && lists && a.Rest == b.Rest && a.Limit == b.Limit
}

// chance draws the same numbers in each run of the tests.
func chance() *rand.Rand { return rand.New(rand.NewPCG(5, 9)) }

// drawCrew draws people who keep most rules, with fees that are often equal.
func drawCrew(r *rand.Rand, people int) api.Crew {
	c := api.Crew{Languages: 2 + r.IntN(2)}
	for range people {
		p := api.Person{Fields: 255 &^ (1 << r.IntN(8)), Clears: 15 &^ (1 << r.IntN(8)), Fee: r.IntN(5), Deaf: r.IntN(2) == 0}
		for range c.Languages {
			p.Levels = append(p.Levels, 1+r.IntN(api.MaxLevel))
		}
		for range r.IntN(3) {
			p.Ties = append(p.Ties, r.IntN(10))
		}
		c.People = append(c.People, p)
	}
	for range api.MaxKinds {
		c.Laws = append(c.Laws, api.Law{Level: 1 + r.IntN(3), Size: 1 + r.IntN(2), Deaf: r.IntN(4) == 0})
	}
	return c
}

func drawBooking(r *rand.Rand, c api.Crew, places int) api.Booking {
	from := r.IntN(c.Languages)
	to := (from + 1 + r.IntN(c.Languages-1)) % c.Languages
	start := 10 * r.IntN(50)
	j := api.Job{From: from, To: to, Client: r.IntN(10), Field: r.IntN(8), Kind: r.IntN(4), Size: 1 + r.IntN(2)}
	return api.Booking{Job: j, Place: r.IntN(places), Start: start, End: start + 10*(1+r.IntN(6))}
}

func drawShift(r *rand.Rand, d api.Day, id int) api.Shift {
	x := assign(id, r.IntN(12), r.IntN(len(d.Bookings)), r.IntN(len(d.Crew.People)))
	if r.IntN(4) == 0 {
		x.Kind = api.Remove
	}
	return x
}

// drawDay draws a day with so many people, at most four bookings, and at most fifteen shifts that are all different and do not clash.
func drawDay(r *rand.Rand, people int) api.Day {
	d := api.Day{Crew: drawCrew(r, people), Rest: 10 * r.IntN(3), Limit: 60 + 10*r.IntN(12)}
	places := 1 + r.IntN(3)
	for range places {
		var row []api.Span
		for range places {
			low := 10 * r.IntN(3)
			row = append(row, span(low, low+10*r.IntN(3)))
		}
		d.Travel = append(d.Travel, row)
	}
	for range r.IntN(5) {
		d.Bookings = append(d.Bookings, drawBooking(r, d.Crew, places))
	}
	if people == 0 || len(d.Bookings) == 0 {
		return d
	}
	for _, id := range r.Perm(api.MaxShift + 1)[:r.IntN(16)] {
		d.Shifts = append(d.Shifts, drawShift(r, d, id))
	}
	return d
}

// eachDay calls a function for drawn days.
func eachDay(times int, do func(r *rand.Rand, d api.Day)) {
	r := chance()
	for range times {
		do(r, drawDay(r, r.IntN(6)))
	}
}

// shuffled is the same shifts in another order, with some of them twice.
func shuffled(r *rand.Rand, l []api.Shift) []api.Shift {
	l = slices.Clone(l)
	for _, x := range l {
		if len(l) < api.MaxShifts && r.IntN(2) == 0 {
			l = append(l, x)
		}
	}
	r.Shuffle(len(l), func(i, j int) { l[i], l[j] = l[j], l[i] })
	return l
}

func isIn(set, element int) bool { return set/(1<<element)%2 == 1 }

func setOf(elements []int) int {
	set := 0
	for _, i := range elements {
		set |= 1 << i
	}
	return set
}

// wantCan reports whether a person can be on bookings, by the words of the chapter.
func wantCan(d api.Day, person int, bookings []int) bool {
	l, minutes := slices.Clone(bookings), 0
	slices.Sort(l)
	slices.SortStableFunc(l, func(a, b int) int { return cmp.Compare(d.Bookings[a].Start, d.Bookings[b].Start) })
	for i, second := range l {
		b := d.Bookings[second]
		for _, first := range l[:i] {
			a := d.Bookings[first]
			if b.Start < a.End+d.Rest+d.Travel[a.Place][b.Place].High {
				return false
			}
		}
		broken, e := teams.Broken(d.Crew, b.Job, 1<<person)
		if e != api.OK || broken%8 != 0 {
			return false
		}
		minutes += b.End - b.Start
	}
	return minutes <= d.Limit
}

// bookingsOf are the bookings on whose teams a person is, the first one first.
func bookingsOf(d api.Day, sets []int, person int) []int {
	var l []int
	for booking, team := range sets {
		if isIn(team, person) {
			l = append(l, booking)
		}
	}
	slices.SortStableFunc(l, func(a, b int) int { return cmp.Compare(d.Bookings[a].Start, d.Bookings[b].Start) })
	return l
}

// wantTeams are the teams of all bookings and the Ids of the shifts that are refused, shift by shift.
func wantTeams(d api.Day) (sets, refused []int) {
	sets = make([]int, len(d.Bookings))
	l := slices.Clone(d.Shifts)
	slices.SortFunc(l, func(x, y api.Shift) int { return cmp.Or(x.Stamp-y.Stamp, x.Id-y.Id) })
	l = slices.Compact(l)
	for i, x := range l {
		later := func(y api.Shift) bool { return y.Booking == x.Booking && y.Person == x.Person }
		switch {
		case x.Kind == api.Remove || slices.ContainsFunc(l[i+1:], later):
		case wantCan(d, x.Person, append(bookingsOf(d, sets, x.Person), x.Booking)):
			sets[x.Booking] += 1 << x.Person
		default:
			refused = append(refused, x.Id)
		}
	}
	slices.Sort(refused)
	return sets, refused
}

func feeOf(d api.Day, people int) int {
	fee := 0
	for i, p := range d.Crew.People {
		if isIn(people, i) {
			fee += p.Fee
		}
	}
	return fee
}

// fitting are all teams that fit the job of a booking, in ascending order.
func fitting(d api.Day, booking int) []int {
	var l []int
	for team := 1; team < 1<<len(d.Crew.People); team++ {
		if broken, e := teams.Broken(d.Crew, d.Bookings[booking].Job, team); e == api.OK && broken == 0 {
			l = append(l, team)
		}
	}
	return l
}

// possible reports whether each person can be on all bookings on whose teams the person is.
func possible(d api.Day, sets []int) bool {
	for person := range d.Crew.People {
		if !wantCan(d, person, bookingsOf(d, sets, person)) {
			return false
		}
	}
	return true
}

// wantPlan goes through all choices of teams that fit, in ascending order; nil if none is possible.
func wantPlan(d api.Day) (sets []int, fee int) {
	choices := [][]int{{}}
	for booking := range d.Bookings {
		var longer [][]int
		for _, l := range choices {
			for _, team := range fitting(d, booking) {
				longer = append(longer, append(slices.Clone(l), team))
			}
		}
		choices = longer
	}
	for _, l := range choices {
		sum := 0
		for _, team := range l {
			sum += feeOf(d, team)
		}
		if (sets == nil || sum < fee) && possible(d, l) {
			sets, fee = l, sum
		}
	}
	return sets, fee
}

// teamsOf are the teams of a day without an error.
func teamsOf(t *testing.T, d api.Day) []int {
	t.Helper()
	sets, e := rosters.Teams(d)
	if e != api.OK {
		t.Fatalf("Teams of %v: error %d", d, e)
	}
	return sets
}

// results are all that the functions return about a day, more shifts, a booking and a person.
type results struct {
	errors                               []api.Errno
	merged                               api.Day
	teams, refused, served, routed, free []int
	plan                                 []int
	spare, add, fee, planned             int
}

func resultsOf(d api.Day, more []api.Shift, booking, person int) results {
	var x results
	e := make([]api.Errno, 9)
	e[0] = rosters.Check(d)
	x.merged, e[1] = rosters.Merge(d, more)
	x.teams, e[2] = rosters.Teams(d)
	x.refused, e[3] = rosters.Refused(d)
	x.served, e[4] = rosters.Served(d)
	x.plan, x.planned, e[5] = rosters.Plan(d)
	x.routed, x.spare, e[6] = rosters.Route(d, person)
	x.free, e[7] = rosters.Free(d, booking)
	x.add, x.fee, e[8] = rosters.Fill(d, booking)
	x.errors = e
	return x
}

// same reports whether two results are equal.
func (x results) same(y results) bool {
	lists := slices.EqualFunc([][]int{x.teams, x.refused, x.served, x.routed, x.free, x.plan}, [][]int{y.teams, y.refused, y.served, y.routed, y.free, y.plan}, slices.Equal[[]int])
	numbers := [4]int{x.spare, x.add, x.fee, x.planned} == [4]int{y.spare, y.add, y.fee, y.planned}
	return lists && numbers && slices.Equal(x.errors, y.errors) && sameDay(x.merged, y.merged)
}
