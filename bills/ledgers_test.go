package bills_test

import (
	"math"
	"math/rand/v2"
	"slices"
	"testing"

	"handshape/api"
	"handshape/bills"
)

// ledgersOf has the ledger L with each of some changes.
func ledgersOf(changes ...func(l *api.Ledger)) []api.Ledger {
	var all []api.Ledger
	for _, change := range changes {
		all = append(all, changedL(change))
	}
	return all
}

// invalidDays has the ledger L with days that are not valid, by their errors.
func invalidDays() map[api.Errno][]api.Ledger {
	return map[api.Errno][]api.Ledger{
		api.ErrCrew: ledgersOf(func(l *api.Ledger) { l.Day = api.Day{} }, func(l *api.Ledger) { l.Day.Crew.Languages = 1; l.Day.Rest = -1 }),
		api.ErrJob:  ledgersOf(func(l *api.Ledger) { l.Day.Bookings[2].Job.Kind = 4 }, func(l *api.Ledger) { l.Day.Bookings[0].Job.Size = 0; l.Day.Rest = -1 }),
		api.ErrDay: ledgersOf(
			func(l *api.Ledger) { l.Day.Rest = -1 }, func(l *api.Ledger) { l.Day.Bookings[1].End = 150 },
			func(l *api.Ledger) { l.Day.Shifts[0].Person = 4 }, func(l *api.Ledger) { l.Day.Bookings = nil },
		),
		api.ErrShifts: ledgersOf(func(l *api.Ledger) { l.Day.Shifts[0].Id = 2 }),
	}
}

// number is a number of a ledger that has a least and a greatest value.
type number struct {
	name        string
	least, most int
	of          func(l *api.Ledger) *int
}

// numbers are all numbers of the ledger L.
func numbers() []number {
	return []number{
		{"payer", 0, 20, func(l *api.Ledger) *int { return &l.Payers[0] }}, {"payer of the last", 0, 20, func(l *api.Ledger) *int { return &l.Payers[2] }},
		{"trip", 0, 300, func(l *api.Ledger) *int { return &l.Trips[0] }}, {"trip of the last", 0, 300, func(l *api.Ledger) *int { return &l.Trips[2] }},
		{"unit", 1, 240, func(l *api.Ledger) *int { return &l.Tariff.Unit }}, {"rate", 0, 10000, func(l *api.Ledger) *int { return &l.Tariff.Rate }},
		{"least", 0, 20, func(l *api.Ledger) *int { return &l.Tariff.Least }}, {"night", 0, 100, func(l *api.Ledger) *int { return &l.Tariff.Night }},
		{"dusk", 90, 1440, func(l *api.Ledger) *int { return &l.Tariff.Dusk }}, {"dawn", 0, 1200, func(l *api.Ledger) *int { return &l.Tariff.Dawn }},
		{"minute of travel", 0, 10000, func(l *api.Ledger) *int { return &l.Tariff.Minute }}, {"cap", 0, 1000000, func(l *api.Ledger) *int { return &l.Tariff.Cap }},
		{"subsidy", 0, 100, func(l *api.Ledger) *int { return &l.Tariff.Subsidy[0] }}, {"last subsidy", 0, 100, func(l *api.Ledger) *int { return &l.Tariff.Subsidy[3] }},
		{"before of the first", 61, 100000, func(l *api.Ledger) *int { return &l.Tariff.Notices[0].Before }}, {"before of the last", 0, 999, func(l *api.Ledger) *int { return &l.Tariff.Notices[1].Before }},
		{"percent", 0, 100, func(l *api.Ledger) *int { return &l.Tariff.Notices[0].Percent }}, {"last percent", 0, 100, func(l *api.Ledger) *int { return &l.Tariff.Notices[1].Percent }},
		{"id", 3, 99, func(l *api.Ledger) *int { l.Calls = append(l.Calls, call(50, 0, 0)); return &l.Calls[2].Id }},
		{"booking", 0, 2, func(l *api.Ledger) *int { return &l.Calls[0].Booking }}, {"minute", -100000, 1440, func(l *api.Ledger) *int { return &l.Calls[1].Minute }},
	}
}

// validLedgers has ledgers with each number at its bounds, and with slices of the greatest and of the least lengths.
func validLedgers() []api.Ledger {
	all := ledgersOf(
		func(l *api.Ledger) {}, func(l *api.Ledger) { l.Calls, l.Tariff.Notices = nil, nil },
		func(l *api.Ledger) { l.Calls = slices.Repeat(l.Calls, 5) }, func(l *api.Ledger) { l.Calls[0].Id = 0 },
		func(l *api.Ledger) { l.Tariff.Notices = append(l.Tariff.Notices, notice(59, 100), notice(0, 0)) },
		func(l *api.Ledger) { l.Tariff.Dusk, l.Tariff.Dawn = 0, 0 }, func(l *api.Ledger) { l.Tariff.Dusk, l.Tariff.Dawn = 1440, 1440 },
		func(l *api.Ledger) {
			l.Day.Bookings, l.Day.Shifts, l.Payers, l.Trips, l.Calls = nil, nil, nil, []int{}, nil
		},
	)
	for _, n := range numbers() {
		all = append(all, ledgersOf(func(l *api.Ledger) { *n.of(l) = n.least }, func(l *api.Ledger) { *n.of(l) = n.most })...)
	}
	return all
}

// invalidLedgers has ledgers with each number and each length just beyond its bounds; their days are valid.
func invalidLedgers() []api.Ledger {
	all := ledgersOf(
		func(l *api.Ledger) { l.Payers = nil }, func(l *api.Ledger) { l.Payers = l.Payers[:2] }, func(l *api.Ledger) { l.Payers = append(l.Payers, 0) },
		func(l *api.Ledger) { l.Trips = nil }, func(l *api.Ledger) { l.Trips = l.Trips[:2] }, func(l *api.Ledger) { l.Trips = append(l.Trips, 0) },
		func(l *api.Ledger) { l.Day.Bookings, l.Day.Shifts, l.Calls = nil, nil, nil },
		func(l *api.Ledger) {
			l.Day.Bookings, l.Day.Shifts, l.Payers, l.Trips = nil, nil, nil, nil
		},
		func(l *api.Ledger) { l.Tariff = api.Tariff{} }, func(l *api.Ledger) { l.Tariff.Subsidy = nil },
		func(l *api.Ledger) { l.Tariff.Subsidy = l.Tariff.Subsidy[:3] }, func(l *api.Ledger) { l.Tariff.Subsidy = append(l.Tariff.Subsidy, 0) },
		func(l *api.Ledger) {
			l.Tariff.Notices = append(l.Tariff.Notices, notice(3, 0), notice(2, 0), notice(1, 0))
		},
		func(l *api.Ledger) { slices.Reverse(l.Tariff.Notices) }, func(l *api.Ledger) { l.Tariff.Notices[1].Before = 1000 },
		func(l *api.Ledger) { l.Tariff.Notices = append(l.Tariff.Notices, notice(60, 50)) },
		func(l *api.Ledger) { l.Tariff.Dusk, l.Tariff.Dawn = 90, 91 }, func(l *api.Ledger) { l.Tariff.Dusk, l.Tariff.Dawn = 1441, 1441 }, func(l *api.Ledger) { l.Tariff.Dusk, l.Tariff.Dawn = -1, -1 },
		func(l *api.Ledger) { l.Calls = slices.Repeat(l.Calls[:1], 11) }, func(l *api.Ledger) { l.Calls = append(l.Calls, call(9, 3, 0)) },
		func(l *api.Ledger) { l.Calls[0].Id = -1 },
	)
	for _, n := range numbers() {
		if n.name != "id" {
			all = append(all, ledgersOf(func(l *api.Ledger) { *n.of(l) = n.least - 1 }, func(l *api.Ledger) { *n.of(l) = math.MinInt })...)
		}
		all = append(all, ledgersOf(func(l *api.Ledger) { *n.of(l) = n.most + 1 }, func(l *api.Ledger) { *n.of(l) = math.MaxInt })...)
	}
	return all
}

// clashes has the ledger L for each way in which two calls with the same Id are not equal.
func clashes() []api.Ledger {
	var all []api.Ledger
	for _, x := range []api.Call{call(1, 0, 80), call(1, 1, 79), call(2, 1, 80)} {
		all = append(all, ledgersOf(
			func(l *api.Ledger) { l.Calls = append(l.Calls, x) }, func(l *api.Ledger) { l.Calls = append([]api.Call{x, x}, l.Calls...) },
			func(l *api.Ledger) { l.Calls = append(l.Calls, x, l.Calls[0], l.Calls[1]) },
		)...)
	}
	return all
}

// P7.1
func TestCheck(t *testing.T) {
	for i, l := range validLedgers() {
		if e := bills.Check(l); e != api.OK {
			t.Errorf("%d: Check of %v = %d", i, l, e)
		}
	}
	for i, l := range invalidLedgers() {
		if e := bills.Check(l); e != api.ErrLedger {
			t.Errorf("%d: Check of %v = %d", i, l, e)
		}
	}
	for i, l := range clashes() {
		if e := bills.Check(l); e != api.ErrCalls {
			t.Errorf("%d: Check of %v = %d", i, l, e)
		}
	}
}

// P1, R1, R2: the error of the day comes before those of the ledger, of the clashes, and of all other arguments.
func TestErrors(t *testing.T) {
	ledger := func(l *api.Ledger) { l.Tariff.Unit = 0 }
	clash := func(l *api.Ledger) { l.Calls = append(l.Calls, call(1, 0, 0)) }
	same := func(*api.Ledger) {}
	check := func(l api.Ledger, want api.Errno) {
		t.Helper()
		for _, n := range []int{-1, 0, 2, 3, math.MinInt, math.MaxInt} {
			if got := resultsOf(l, n, n, n); !got.isZero(want) {
				t.Errorf("of %v and %d: %v, want error %d", l, n, got, want)
			}
		}
	}
	for want, ledgers := range invalidDays() {
		for _, l := range ledgers {
			for _, change := range []func(l *api.Ledger){same, ledger, clash} {
				check(changed(l, change), want)
			}
		}
	}
	for _, l := range invalidLedgers() {
		check(l, api.ErrLedger)
	}
	for _, l := range clashes() {
		check(l, api.ErrCalls)
		check(changed(l, ledger), api.ErrLedger)
		check(changed(l, func(l *api.Ledger) { l.Calls = append(l.Calls, call(1, 3, 0)) }), api.ErrLedger)
	}
}

// P1, R1, R2: bookings that are none of the day, and minutes and amounts that are too low or too high.
func TestErrorsOfNumbers(t *testing.T) {
	for booking, bad := range map[int]bool{-1: true, 0: false, 2: false, 3: true, math.MinInt: true, math.MaxInt: true} {
		for minute, early := range map[int]bool{-100001: true, -100000: false, 1440: false, 1441: true, math.MinInt: true, math.MaxInt: true} {
			for most, beyond := range map[int]bool{-1: true, 0: false, 1000000000: false, 1000000001: true, math.MinInt: true, math.MaxInt: true} {
				got := resultsOf(ledgerL(), booking, minute, most)
				isWrong := func(e api.Errno, wrong, zero bool) bool {
					return wrong && (e != api.ErrArg || !zero) || !wrong && e != api.OK
				}
				if isWrong(got.errors[4], bad, len(got.pay) == 0) || isWrong(got.errors[5], bad || early, got.saved == 0) || isWrong(got.errors[6], bad || beyond, got.latest == 0) {
					t.Errorf("of %d, %d and %d: %v", booking, minute, most, got)
				}
			}
		}
	}
	none := api.Ledger{Day: plainDay(2), Tariff: tariffL()}
	if got := resultsOf(none, 0, 0, 0); !slices.Equal(got.errors, []api.Errno{0, 0, 0, 0, api.ErrArg, api.ErrArg, api.ErrArg}) {
		t.Errorf("errors without bookings: %v", got.errors)
	}
	// what is not valid comes before what there is not
	unserved := changedL(func(l *api.Ledger) { l.Day.Shifts = nil })
	for most, want := range map[int]api.Errno{-1: api.ErrArg, 0: api.ErrNone, 1000000000: api.ErrNone, 1000000001: api.ErrArg} {
		if minute, e := bills.Latest(unserved, 0, most); minute != 0 || e != want {
			t.Errorf("Latest of a booking that is not served and %d: %d, %d", most, minute, e)
		}
	}
}

// P1: extreme numbers and long slices lead to an error or to a result, never to a panic.
func TestAnyArguments(t *testing.T) {
	r := chance()
	number := func() int {
		return []int{math.MinInt, math.MinInt + 1, -100000, -2, -1, 0, 0, 0, 1, 1, 2, 3, 20, 99, 100, 240, 1440, 10000, 1000000, math.MaxInt}[r.IntN(20)]
	}
	for range 3000 {
		tariff := api.Tariff{Unit: number(), Rate: number(), Least: number(), Dusk: number(), Dawn: number(), Night: number(), Minute: number(), Cap: number()}
		for range r.IntN(6) {
			tariff.Subsidy = append(tariff.Subsidy, number())
			tariff.Notices = append(tariff.Notices, notice(number(), number()))
		}
		x := api.Ledger{Payers: slices.Repeat([]int{number()}, r.IntN(5)), Trips: slices.Repeat([]int{number()}, r.IntN(5)), Tariff: tariff, Calls: slices.Repeat([]api.Call{call(number(), number(), number())}, r.IntN(12))}
		y := x
		y.Day = dayD()
		z := changedL(func(l *api.Ledger) { l.Payers[r.IntN(3)], l.Trips[r.IntN(3)], l.Calls = number(), number(), x.Calls })
		all := numbers()
		w := changedL(func(l *api.Ledger) { *all[r.IntN(len(all))].of(l), *all[r.IntN(len(all))].of(l) = number(), number() })
		v := changedL(func(l *api.Ledger) {
			l.Day.Bookings[r.IntN(3)].Start, l.Day.Bookings[r.IntN(3)].End = number(), number()
		})
		for _, l := range []api.Ledger{{}, x, y, z, w, v, ledgerL()} {
			resultsOf(l, number(), number(), number())
		}
	}
}

// R4: the arguments stay as they are, and the results share no memory with them.
func TestArgumentsStay(t *testing.T) {
	l := changedL(func(l *api.Ledger) { slices.Reverse(l.Calls); slices.Reverse(l.Day.Shifts) })
	before := copied(l)
	got := resultsOf(l, 2, -5000, 100)
	clear(got.lines)
	for _, x := range [][]int{got.totals, got.pay, got.people, got.payers} {
		for i := range x {
			x[i] = 99
		}
	}
	lists := slices.Equal(l.Payers, before.Payers) && slices.Equal(l.Trips, before.Trips) && slices.Equal(l.Calls, before.Calls)
	tariff := slices.Equal(l.Tariff.Subsidy, before.Tariff.Subsidy) && slices.Equal(l.Tariff.Notices, before.Tariff.Notices)
	if !lists || !tariff || !slices.Equal(l.Day.Shifts, before.Day.Shifts) || !slices.Equal(l.Day.Bookings, before.Day.Bookings) {
		t.Errorf("the ledger is changed: %v", l)
	}
}

// P7.9
func TestInAnyOrder(t *testing.T) {
	eachLedger(300, func(r *rand.Rand, l api.Ledger) {
		if len(l.Day.Bookings) == 0 {
			return
		}
		booking, minute, most := r.IntN(len(l.Day.Bookings)), r.IntN(3000)-1600, r.IntN(3000)
		want := resultsOf(l, booking, minute, most)
		other := changed(l, func(l *api.Ledger) {
			l.Calls, l.Day.Shifts = shuffled(r, l.Calls, api.MaxCalls), shuffled(r, l.Day.Shifts, api.MaxShifts)
		})
		if got := resultsOf(other, booking, minute, most); !got.same(want) {
			t.Errorf("%v in another order: %v, want %v", l, got, want)
		}
	})
}
