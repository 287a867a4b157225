package bills_test

import (
	"cmp"
	"math/rand/v2"
	"slices"
	"testing"

	"handshape/api"
	"handshape/bills"
	"handshape/rosters"
)

func assign(id, stamp, booking, person int) api.Shift {
	return api.Shift{Id: id, Stamp: stamp, Kind: api.Assign, Booking: booking, Person: person}
}

func call(id, booking, minute int) api.Call {
	return api.Call{Id: id, Booking: booking, Minute: minute}
}

func notice(before, percent int) api.Notice { return api.Notice{Before: before, Percent: percent} }

// plainDay is a day at one place, without travel and rest, of people who may do all jobs, with so many of them on each booking, the first ones.
func plainDay(people int, bookings ...api.Booking) api.Day {
	law := api.Law{Level: 1, Size: 1}
	d := api.Day{Crew: api.Crew{Languages: 2, Laws: []api.Law{law, law, law, law}}, Travel: [][]api.Span{{{}}}, Bookings: bookings, Limit: 1440}
	for range people {
		d.Crew.People = append(d.Crew.People, api.Person{Levels: []int{5, 5}, Fields: 255, Clears: 255})
	}
	for booking, b := range bookings {
		for person := range b.Job.Size {
			d.Shifts = append(d.Shifts, assign(10*booking+person, 0, booking, person))
		}
	}
	return d
}

// at is a booking for a team of some size, at a kind of places.
func at(start, end, size, kind int) api.Booking {
	return api.Booking{Job: api.Job{From: 0, To: 1, Size: size, Kind: kind}, Start: start, End: end}
}

// tariffL is the tariff of the chapter's examples.
func tariffL() api.Tariff {
	return api.Tariff{
		Unit: 30, Rate: 100, Least: 2, Dusk: 1200, Dawn: 90, Night: 50, Minute: 2,
		Subsidy: []int{0, 10, 25, 50}, Cap: 150, Notices: []api.Notice{notice(1000, 0), notice(60, 50)},
	}
}

// dayD is the day D of the examples of the chapter 5.
func dayD() api.Day {
	off := assign(7, 10, 0, 2)
	off.Kind = api.Remove
	return api.Day{
		Crew: api.Crew{
			Languages: 3,
			People: []api.Person{
				{Levels: []int{5, 4, 0}, Fields: 3, Clears: 15, Fee: 50},
				{Levels: []int{0, 5, 3}, Fields: 3, Clears: 15, Deaf: true, Fee: 40},
				{Levels: []int{4, 0, 4}, Fields: 1, Clears: 3, Ties: []int{7}, Fee: 30},
				{Levels: []int{3, 3, 3}, Fields: 255, Clears: 1, Fee: 10},
			},
			Laws: []api.Law{{Level: 2, Size: 1}, {Level: 4, Size: 2}, {Level: 3, Size: 2, Deaf: true}, {Level: 5, Size: 1}},
		},
		Travel: [][]api.Span{{{}, {Low: 10, High: 20}}, {{Low: 10, High: 25}, {}}},
		Bookings: []api.Booking{
			{Job: api.Job{To: 2, Client: 3, Size: 1}, Place: 0, Start: 60, End: 120},
			{Job: api.Job{To: 2, Client: 3, Field: 1, Size: 1}, Place: 1, Start: 150, End: 200},
			{Job: api.Job{To: 2, Client: 7, Field: 1, Kind: 2, Size: 1}, Place: 0, Start: 230, End: 300},
		},
		Rest: 10, Limit: 140,
		Shifts: []api.Shift{assign(1, 5, 0, 3), assign(2, 6, 1, 3), assign(3, 4, 2, 2), assign(4, 7, 2, 0), assign(5, 8, 2, 1), assign(6, 9, 0, 2), off},
	}
}

// ledgerL is the ledger L of the chapter's examples.
func ledgerL() api.Ledger {
	return api.Ledger{
		Day: dayD(), Payers: []int{0, 1, 0}, Trips: []int{30, 0, 45}, Tariff: tariffL(),
		Calls: []api.Call{call(1, 1, 80), call(2, 1, 120)},
	}
}

// changed is a ledger in new memory with a change.
func changed(l api.Ledger, change func(l *api.Ledger)) api.Ledger {
	l = copied(l)
	change(&l)
	return l
}

func changedL(change func(l *api.Ledger)) api.Ledger { return changed(ledgerL(), change) }

// copied is a ledger in new memory, but for its crew and its travel.
func copied(l api.Ledger) api.Ledger {
	l.Day.Bookings, l.Day.Shifts = slices.Clone(l.Day.Bookings), slices.Clone(l.Day.Shifts)
	l.Payers, l.Trips, l.Calls = slices.Clone(l.Payers), slices.Clone(l.Trips), slices.Clone(l.Calls)
	l.Tariff.Subsidy, l.Tariff.Notices = slices.Clone(l.Tariff.Subsidy), slices.Clone(l.Tariff.Notices)
	return l
}

// one is a ledger of one booking, whose team are the first people, with the tariff of the examples.
func one(b api.Booking, trip int, change func(l *api.Ledger)) api.Ledger {
	return changed(api.Ledger{Day: plainDay(b.Job.Size, b), Payers: []int{0}, Trips: []int{trip}, Tariff: tariffL()}, change)
}

// called is a ledger with one more call.
func called(l api.Ledger, booking, minute int) api.Ledger {
	return changed(l, func(l *api.Ledger) { l.Calls = append(l.Calls, call(99, booking, minute)) })
}

// chance draws the same numbers in each run of the tests.
func chance() *rand.Rand { return rand.New(rand.NewPCG(7, 7)) }

// drawDay draws a day of at most four bookings, of which most are served.
func drawDay(r *rand.Rand) api.Day {
	var bookings []api.Booking
	for range r.IntN(api.MaxBookings + 1) {
		start := r.IntN(1400)
		bookings = append(bookings, at(start, start+1+r.IntN(min(500, 1440-start)), 1+r.IntN(3), r.IntN(api.MaxKinds)))
	}
	d := plainDay(3+r.IntN(3), bookings...)
	for i := range d.Shifts {
		if r.IntN(3) == 0 {
			d.Shifts[i].Person = r.IntN(len(d.Crew.People))
		}
	}
	return d
}

func drawTariff(r *rand.Rand) api.Tariff {
	dawn := r.IntN(800)
	t := api.Tariff{
		Unit: 1 + r.IntN(60), Rate: r.IntN(200), Least: r.IntN(5), Dawn: dawn, Dusk: dawn + r.IntN(641), Night: r.IntN(101), Minute: r.IntN(4),
		Subsidy: []int{r.IntN(101), r.IntN(101), r.IntN(101), r.IntN(101)}, Cap: r.IntN(2000),
	}
	for range r.IntN(api.MaxNotices + 1) {
		t.Notices = append(t.Notices, notice(r.IntN(2000), r.IntN(101)))
	}
	slices.SortFunc(t.Notices, func(x, y api.Notice) int { return cmp.Compare(y.Before, x.Before) })
	t.Notices = slices.CompactFunc(t.Notices, func(x, y api.Notice) bool { return x.Before == y.Before })
	return t
}

// drawLedger draws a ledger with at most six calls, of which some come too late.
func drawLedger(r *rand.Rand) api.Ledger {
	l := api.Ledger{Day: drawDay(r), Tariff: drawTariff(r)}
	for range l.Day.Bookings {
		l.Payers = append(l.Payers, r.IntN(4))
		l.Trips = append(l.Trips, r.IntN(60))
	}
	if len(l.Day.Bookings) == 0 {
		return l
	}
	for _, id := range r.Perm(api.MaxCall + 1)[:r.IntN(7)] {
		l.Calls = append(l.Calls, call(id, r.IntN(len(l.Day.Bookings)), r.IntN(3000)-1600))
	}
	return l
}

// eachLedger calls a function for drawn ledgers.
func eachLedger(times int, do func(r *rand.Rand, l api.Ledger)) {
	r := chance()
	for range times {
		do(r, drawLedger(r))
	}
}

// shuffled is the same elements in another order, with some of them twice, at most so many.
func shuffled[T any](r *rand.Rand, l []T, most int) []T {
	l = slices.Clone(l)
	for _, x := range l {
		if len(l) < most && r.IntN(2) == 0 {
			l = append(l, x)
		}
	}
	r.Shuffle(len(l), func(i, j int) { l[i], l[j] = l[j], l[i] })
	return l
}

// teamOf are the members of the team of a booking, in ascending order; none if it is not served.
func teamOf(l api.Ledger, booking int) []int {
	sets, _ := rosters.Teams(l.Day)
	served, _ := rosters.Served(l.Day)
	var members []int
	for person := range l.Day.Crew.People {
		if slices.Contains(served, booking) && sets[booking]/(1<<person)%2 == 1 {
			members = append(members, person)
		}
	}
	return members
}

// upward is a quotient that is rounded up.
func upward(n, by int) int {
	q := n / by
	if q*by < n {
		q++
	}
	return q
}

// wantWork is the work of a booking that is not cancelled, minute by minute.
func wantWork(l api.Ledger, booking, members int) int {
	b, t := l.Day.Bookings[booking], l.Tariff
	units, begun, night := 0, 0, 0
	for minute := b.Start; minute < b.End; minute++ {
		if begun == 0 {
			units++
		}
		begun = (begun + 1) % t.Unit
		if minute >= t.Dusk || minute < t.Dawn {
			night++
		}
	}
	fees := 0
	for range members {
		fees += t.Rate * max(units, t.Least)
	}
	return fees + upward(fees*t.Night*night, 100*(b.End-b.Start))
}

// wantLine is the line of a booking with so many members whose work would be so much without a cancellation, by the words of the chapter.
func wantLine(l api.Ledger, booking, members, work int) api.Line {
	b, t := l.Day.Bookings[booking], l.Tariff
	cancelled, lowest := false, 0
	for _, c := range l.Calls {
		if c.Booking == booking && c.Minute <= b.Start && (!cancelled || c.Minute < lowest) {
			cancelled, lowest = true, c.Minute
		}
	}
	travel := t.Minute * l.Trips[booking] * members
	if cancelled {
		travel = 0
		i := slices.IndexFunc(t.Notices, func(x api.Notice) bool { return x.Before <= b.Start-lowest })
		if i >= 0 {
			work = upward(work*t.Notices[i].Percent, 100)
		}
	}
	subsidy := min((work+travel)*t.Subsidy[b.Job.Kind]/100, t.Cap)
	return api.Line{Payer: l.Payers[booking], Booking: booking, Work: work, Travel: travel, Subsidy: subsidy, Total: work + travel - subsidy}
}

// wantLines are the lines of all bookings that are served, ordered by payer, then by booking.
func wantLines(l api.Ledger) []api.Line {
	var lines []api.Line
	for payer := range api.MaxPayer + 1 {
		for booking := range l.Day.Bookings {
			members := len(teamOf(l, booking))
			if members > 0 && l.Payers[booking] == payer {
				lines = append(lines, wantLine(l, booking, members, wantWork(l, booking, members)))
			}
		}
	}
	return lines
}

func linesOf(t *testing.T, l api.Ledger) []api.Line {
	t.Helper()
	lines, e := bills.Lines(l)
	if e != api.OK {
		t.Fatalf("Lines of %v: error %d", l, e)
	}
	return lines
}

// lineOf is the line of a booking; ok is false if there is none.
func lineOf(t *testing.T, l api.Ledger, booking int) (line api.Line, ok bool) {
	t.Helper()
	lines := linesOf(t, l)
	i := slices.IndexFunc(lines, func(x api.Line) bool { return x.Booking == booking })
	if i < 0 {
		return api.Line{}, false
	}
	return lines[i], true
}

func payOf(t *testing.T, l api.Ledger, booking int) []int {
	t.Helper()
	pay, e := bills.Pay(l, booking)
	if e != api.OK || len(pay) != len(l.Day.Crew.People) {
		t.Fatalf("Pay of %d of %v: %v, %d", booking, l, pay, e)
	}
	return pay
}

func sum(l []int) int {
	all := 0
	for _, n := range l {
		all += n
	}
	return all
}

// results are all that the functions return about a ledger, a booking, a minute and an amount.
type results struct {
	errors                      []api.Errno
	lines                       []api.Line
	totals, pay, people, payers []int
	fund, saved, latest         int
}

func resultsOf(l api.Ledger, booking, minute, most int) results {
	var x results
	e := make([]api.Errno, 7)
	e[0] = bills.Check(l)
	x.lines, e[1] = bills.Lines(l)
	x.totals, e[2] = bills.Totals(l)
	x.people, x.payers, x.fund, e[3] = bills.Accounts(l)
	x.pay, e[4] = bills.Pay(l, booking)
	x.saved, e[5] = bills.Saved(l, booking, minute)
	x.latest, e[6] = bills.Latest(l, booking, most)
	x.errors = e
	return x
}

// same reports whether two results are equal.
func (x results) same(y results) bool {
	lists := slices.EqualFunc([][]int{x.totals, x.pay, x.people, x.payers}, [][]int{y.totals, y.pay, y.people, y.payers}, slices.Equal[[]int])
	numbers := [3]int{x.fund, x.saved, x.latest} == [3]int{y.fund, y.saved, y.latest}
	return lists && numbers && slices.Equal(x.lines, y.lines) && slices.Equal(x.errors, y.errors)
}

// isZero reports whether the functions return nothing but an error.
func (x results) isZero(e api.Errno) bool {
	return x.same(results{errors: slices.Repeat([]api.Errno{e}, 7)})
}
