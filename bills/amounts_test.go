package bills_test

import (
	"math/rand/v2"
	"slices"
	"testing"

	"handshape/api"
	"handshape/bills"
)

// amounts are the work, the travel, the subsidy and the total of a line.
type amounts struct{ work, travel, subsidy, total int }

// P7.2: each rounding and each bound of the amounts of one booking.
func TestLine(t *testing.T) {
	same := func(*api.Ledger) {}
	noon := at(600, 660, 1, 0)
	rate := func(n int) func(l *api.Ledger) { return func(l *api.Ledger) { l.Tariff.Rate = n } }
	// each minute of the night costs as much as one of the day
	night := func(dawn, dusk int) func(l *api.Ledger) {
		return func(l *api.Ledger) {
			l.Tariff.Dawn, l.Tariff.Dusk, l.Tariff.Night, l.Tariff.Unit, l.Tariff.Rate = dawn, dusk, 100, 1, 1
		}
	}
	for i, x := range []struct {
		l    api.Ledger
		want amounts
	}{
		// started units, and the least number of them
		{one(at(600, 660, 1, 0), 0, same), amounts{200, 0, 0, 200}}, {one(at(600, 661, 1, 0), 0, same), amounts{300, 0, 0, 300}}, {one(at(600, 690, 1, 0), 0, same), amounts{300, 0, 0, 300}},
		{one(at(600, 601, 1, 0), 0, same), amounts{200, 0, 0, 200}}, {one(at(600, 601, 1, 0), 0, func(l *api.Ledger) { l.Tariff.Least = 0 }), amounts{100, 0, 0, 100}},
		{one(noon, 0, func(l *api.Ledger) { l.Tariff.Least = 20 }), amounts{2000, 0, 0, 2000}}, {one(noon, 0, func(l *api.Ledger) { l.Tariff.Unit = 1 }), amounts{6000, 0, 0, 6000}},
		{one(noon, 9, rate(0)), amounts{0, 18, 0, 18}}, {one(at(600, 660, 3, 0), 9, same), amounts{600, 54, 0, 654}}, {one(noon, 9, func(l *api.Ledger) { l.Tariff.Minute = 0 }), amounts{200, 0, 0, 200}},
		// minutes of the night
		{one(at(600, 610, 1, 0), 0, night(0, 1440)), amounts{10, 0, 0, 10}}, {one(at(600, 610, 1, 0), 0, night(600, 610)), amounts{10, 0, 0, 10}},
		{one(at(600, 610, 1, 0), 0, night(601, 610)), amounts{11, 0, 0, 11}}, {one(at(600, 610, 1, 0), 0, night(600, 609)), amounts{11, 0, 0, 11}}, {one(at(600, 610, 1, 0), 0, night(601, 609)), amounts{12, 0, 0, 12}},
		{one(at(600, 610, 1, 0), 0, night(605, 605)), amounts{20, 0, 0, 20}}, {one(at(600, 610, 1, 0), 0, night(700, 800)), amounts{20, 0, 0, 20}}, {one(at(600, 610, 1, 0), 0, night(0, 599)), amounts{20, 0, 0, 20}},
		{one(at(0, 1440, 1, 0), 0, night(1, 1439)), amounts{1442, 0, 0, 1442}},
		// the surcharge of 1 of 60 minutes: for each member 1.67, for all together 3.33
		{one(at(1141, 1201, 1, 0), 0, same), amounts{202, 0, 0, 202}}, {one(at(1141, 1201, 2, 0), 0, same), amounts{404, 0, 0, 404}}, {one(at(1141, 1201, 3, 0), 0, same), amounts{605, 0, 0, 605}},
		{one(at(1200, 1260, 2, 0), 0, same), amounts{600, 0, 0, 600}}, {one(at(1200, 1260, 2, 0), 0, func(l *api.Ledger) { l.Tariff.Night = 0 }), amounts{400, 0, 0, 400}},
		// the subsidy of work and travel, rounded down, and its greatest value
		{one(at(600, 660, 1, 1), 0, rate(99)), amounts{198, 0, 19, 179}}, {one(at(600, 660, 1, 1), 1, rate(99)), amounts{198, 2, 20, 180}}, {one(at(600, 660, 1, 3), 50, same), amounts{200, 100, 150, 150}},
		{one(at(600, 660, 1, 3), 51, same), amounts{200, 102, 150, 152}}, {one(at(600, 660, 1, 3), 49, same), amounts{200, 98, 149, 149}}, {one(at(600, 660, 1, 3), 49, func(l *api.Ledger) { l.Tariff.Cap = 0 }), amounts{200, 98, 0, 298}},
		{one(at(600, 660, 1, 2), 49, func(l *api.Ledger) { l.Tariff.Subsidy[2], l.Tariff.Cap = 100, 1000 }), amounts{200, 98, 298, 0}},
		// the greatest amounts of all
		{one(at(0, 1440, 8, 0), 300, func(l *api.Ledger) {
			l.Tariff = api.Tariff{Unit: 1, Rate: 10000, Night: 100, Minute: 10000, Subsidy: []int{100, 0, 0, 0}, Cap: 1000000}
		}), amounts{230400000, 24000000, 1000000, 253400000}},
	} {
		line, ok := lineOf(t, x.l, 0)
		if got := (amounts{line.Work, line.Travel, line.Subsidy, line.Total}); got != x.want || !ok {
			t.Errorf("%d: the line of %v: %v, want %v", i, x.l, got, x.want)
		}
	}
}

// P7.2: which calls count, and which notice applies. The booking has a work of 303, and a travel of 20.
func TestCancelled(t *testing.T) {
	l := one(at(600, 690, 1, 2), 10, func(l *api.Ledger) {
		l.Tariff.Rate = 101
		l.Tariff.Notices = []api.Notice{notice(1000, 0), notice(60, 50), notice(30, 75), notice(0, 90)}
	})
	late := changed(l, func(l *api.Ledger) { l.Tariff.Notices = l.Tariff.Notices[:3] })
	odd := changed(l, func(l *api.Ledger) { l.Tariff.Notices = []api.Notice{notice(60, 100), notice(30, 10)} })
	for i, x := range []struct {
		l       api.Ledger
		minutes []int
		want    amounts
	}{
		{l, nil, amounts{303, 20, 80, 243}}, {l, []int{601}, amounts{303, 20, 80, 243}}, {l, []int{1440, 690}, amounts{303, 20, 80, 243}},
		{l, []int{600}, amounts{273, 0, 68, 205}}, {l, []int{571}, amounts{273, 0, 68, 205}}, {l, []int{570}, amounts{228, 0, 57, 171}}, {l, []int{541}, amounts{228, 0, 57, 171}},
		{l, []int{540}, amounts{152, 0, 38, 114}}, {l, []int{-399}, amounts{152, 0, 38, 114}}, {l, []int{-400}, amounts{0, 0, 0, 0}}, {l, []int{-100000}, amounts{0, 0, 0, 0}},
		// the lowest minute of all
		{l, []int{600, 540, 570}, amounts{152, 0, 38, 114}}, {l, []int{601, 570}, amounts{228, 0, 57, 171}}, {l, []int{540, 540}, amounts{152, 0, 38, 114}},
		// no notice applies: the work is due, the travel is not
		{late, []int{600}, amounts{303, 0, 75, 228}}, {late, []int{571}, amounts{303, 0, 75, 228}}, {late, []int{570}, amounts{228, 0, 57, 171}},
		// an earlier cancellation can be dearer
		{odd, []int{570}, amounts{31, 0, 7, 24}}, {odd, []int{570, 540}, amounts{303, 0, 75, 228}},
	} {
		for i, minute := range x.minutes {
			x.l = changed(x.l, func(l *api.Ledger) { l.Calls = append(l.Calls, call(i, 0, minute)) })
		}
		line, ok := lineOf(t, x.l, 0)
		if got := (amounts{line.Work, line.Travel, line.Subsidy, line.Total}); got != x.want || !ok {
			t.Errorf("%d: the line of %v: %v, want %v", i, x.l, got, x.want)
		}
	}
}

// fourBookings is a ledger of the payers 2, 0, 2 and 5, of which the third booking is not served; the second one is cancelled.
func fourBookings() api.Ledger {
	d := plainDay(5, at(600, 660, 1, 0), at(700, 760, 2, 1), at(800, 860, 5, 0), at(900, 960, 3, 3))
	d.Shifts = slices.DeleteFunc(d.Shifts, func(x api.Shift) bool { return x.Booking == 2 && x.Person == 4 })
	return api.Ledger{Day: d, Payers: []int{2, 0, 2, 5}, Trips: []int{1, 2, 3, 4}, Tariff: tariffL(), Calls: []api.Call{call(1, 1, 640), call(2, 2, 0)}}
}

// P7.2, P7.3, P7.4, P7.5
func TestSeveral(t *testing.T) {
	l := fourBookings()
	want := []api.Line{
		{Payer: 0, Booking: 1, Work: 200, Subsidy: 20, Total: 180}, {Payer: 2, Booking: 0, Work: 200, Travel: 2, Total: 202}, {Payer: 5, Booking: 3, Work: 600, Travel: 24, Subsidy: 150, Total: 474},
	}
	if lines := linesOf(t, l); !slices.Equal(lines, want) {
		t.Errorf("Lines: %v", lines)
	}
	if totals, e := bills.Totals(l); !slices.Equal(totals, []int{180, 0, 202, 0, 0, 474}) || e != api.OK {
		t.Errorf("Totals: %v, %d", totals, e)
	}
	for booking, want := range [][]int{{202, 0, 0, 0, 0}, {100, 100, 0, 0, 0}, {0, 0, 0, 0, 0}, {208, 208, 208, 0, 0}} {
		if pay := payOf(t, l, booking); !slices.Equal(pay, want) {
			t.Errorf("Pay of %d: %v", booking, pay)
		}
	}
	people, payers, fund, e := bills.Accounts(l)
	if !slices.Equal(people, []int{510, 308, 208, 0, 0}) || !slices.Equal(payers, []int{-180, 0, -202, 0, 0, -474}) || fund != -170 || e != api.OK {
		t.Errorf("Accounts: %v, %v, %d, %d", people, payers, fund, e)
	}
	// a booking of the same payer with a lower number comes first
	l.Payers = []int{2, 2, 9, 2}
	if lines := linesOf(t, l); len(lines) != 3 || lines[0].Booking != 0 || lines[1].Booking != 1 || lines[2].Booking != 3 {
		t.Errorf("Lines of one payer: %v", lines)
	}
	// a payer of whose bookings none is served counts, too
	if totals, e := bills.Totals(l); !slices.Equal(totals, []int{0, 0, 856, 0, 0, 0, 0, 0, 0, 0}) || e != api.OK {
		t.Errorf("Totals of one payer: %v, %d", totals, e)
	}
}

// P7.2, P7.3, P7.4, P7.5: without bookings, without people, without shifts.
func TestNothing(t *testing.T) {
	none := api.Ledger{Day: plainDay(2), Tariff: tariffL()}
	got := resultsOf(none, 0, 0, 0)
	if len(got.lines)+len(got.totals)+len(got.payers) != 0 || !slices.Equal(got.people, []int{0, 0}) || got.fund != 0 {
		t.Errorf("without bookings: %v", got)
	}
	empty := changedL(func(l *api.Ledger) { l.Day.Shifts = nil })
	nobody := changed(empty, func(l *api.Ledger) { l.Day.Crew.People = nil })
	for people, l := range map[int]api.Ledger{4: empty, 0: nobody} {
		want := results{errors: []api.Errno{0, 0, 0, 0, 0, 0, api.ErrNone}, totals: []int{0, 0}, payers: []int{0, 0}, pay: make([]int, people), people: make([]int, people)}
		if got := resultsOf(l, 1, 0, 0); !got.same(want) {
			t.Errorf("without shifts: %v, want %v", got, want)
		}
	}
}

// P7.4: how the work and the travel are divided.
func TestPay(t *testing.T) {
	// three people with a work of 300 and a travel of 21; a percentage of the work is due after a call
	three := func(percent int) api.Ledger {
		return one(at(600, 660, 3, 0), 7, func(l *api.Ledger) {
			l.Tariff = api.Tariff{Unit: 60, Rate: 100, Dusk: 1440, Minute: 1, Subsidy: []int{50, 0, 0, 0}, Cap: 1000, Notices: []api.Notice{notice(0, percent)}}
		})
	}
	rate := func(n int) func(l *api.Ledger) { return func(l *api.Ledger) { l.Tariff.Rate = n } }
	for i, x := range []struct {
		l    api.Ledger
		want []int
	}{
		{three(100), []int{107, 107, 107}}, {called(three(100), 0, 0), []int{100, 100, 100}}, {called(three(99), 0, 0), []int{99, 99, 99}}, {called(three(0), 0, 0), []int{0, 0, 0}},
		// 1 percent of 303 and of 405, rounded up
		{called(changed(three(1), rate(101)), 0, 0), []int{2, 1, 1}}, {called(changed(three(1), rate(135)), 0, 0), []int{2, 2, 1}},
		// a surcharge of 1 and of 2
		{changed(three(0), func(l *api.Ledger) { l.Tariff.Night, l.Tariff.Dusk = 20, 659 }), []int{108, 107, 107}}, {changed(three(0), func(l *api.Ledger) { l.Tariff.Night, l.Tariff.Dusk = 40, 659 }), []int{108, 108, 107}},
	} {
		if pay := payOf(t, x.l, 0); !slices.Equal(pay, x.want) {
			t.Errorf("%d: Pay of %v: %v, want %v", i, x.l, pay, x.want)
		}
	}
	// the first ones are those with the lower numbers, whoever is put on the booking first
	l := changed(three(0), func(l *api.Ledger) {
		l.Tariff.Night, l.Tariff.Dusk = 40, 659
		l.Day.Crew.People = append(l.Day.Crew.People, l.Day.Crew.People[:2]...)
		l.Day.Shifts = []api.Shift{assign(1, 1, 0, 4), assign(2, 2, 0, 3), assign(3, 3, 0, 1)}
	})
	if pay := payOf(t, l, 0); !slices.Equal(pay, []int{0, 108, 0, 108, 107}) {
		t.Errorf("Pay of %v: %v", l, pay)
	}
}

// P7.2, P7.3, P7.5, P7.8: on drawn ledgers.
func TestBalance(t *testing.T) {
	eachLedger(2000, func(_ *rand.Rand, l api.Ledger) {
		lines := wantLines(l)
		if got := linesOf(t, l); !slices.Equal(got, lines) {
			t.Errorf("Lines of %v: %v, want %v", l, got, lines)
		}
		var totals, owed []int
		if len(l.Payers) > 0 {
			totals = make([]int, slices.Max(l.Payers)+1)
		}
		subsidies := 0
		for _, x := range lines {
			totals[x.Payer] += x.Total
			subsidies += x.Subsidy
		}
		for _, n := range totals {
			owed = append(owed, -n)
		}
		if got, e := bills.Totals(l); !slices.Equal(got, totals) || e != api.OK {
			t.Errorf("Totals of %v: %v, %d, want %v", l, got, e, totals)
		}
		earned := make([]int, len(l.Day.Crew.People))
		for booking := range l.Day.Bookings {
			for person, n := range payOf(t, l, booking) {
				earned[person] += n
			}
		}
		people, payers, fund, e := bills.Accounts(l)
		if !slices.Equal(people, earned) || !slices.Equal(payers, owed) || fund != -subsidies || e != api.OK {
			t.Errorf("Accounts of %v: %v, %v, %d, %d", l, people, payers, fund, e)
		}
		if sum(people)+sum(payers)+fund != 0 {
			t.Errorf("Accounts of %v do not balance: %v, %v, %d", l, people, payers, fund)
		}
	})
}

// eachBooking calls a function for each booking of drawn ledgers, with its line, which is zero if it is not served.
func eachBooking(t *testing.T, times int, do func(l api.Ledger, booking int, line api.Line)) {
	eachLedger(times, func(_ *rand.Rand, l api.Ledger) {
		for booking := range l.Day.Bookings {
			line, _ := lineOf(t, l, booking)
			do(l, booking, line)
		}
	})
}

// P7.4, P7.8, P7.12: on drawn ledgers.
func TestFairParts(t *testing.T) {
	unequal := 0
	eachBooking(t, 1000, func(l api.Ledger, booking int, line api.Line) {
		pay, members := payOf(t, l, booking), teamOf(l, booking)
		if sum(pay) != line.Work+line.Travel {
			t.Errorf("Pay of %d of %v: %v, want %d", booking, l, pay, line.Work+line.Travel)
		}
		for person, n := range pay {
			if n != 0 && !slices.Contains(members, person) {
				t.Errorf("%d is paid for %d of %v", person, booking, l)
			}
		}
		for i := 1; i < len(members); i++ {
			first, before, n := pay[members[0]], pay[members[i-1]], pay[members[i]]
			if before < n || first-n > 2 {
				t.Errorf("the parts of %d of %v: %v", booking, l, pay)
			}
			if before != n {
				unequal++
			}
		}
	})
	if unequal < 300 {
		t.Errorf("%d parts of the drawn ledgers are not equal", unequal)
	}
}

// P7.11: on drawn ledgers.
func TestBounds(t *testing.T) {
	subsidies, most := 0, 0
	eachBooking(t, 1000, func(l api.Ledger, booking int, line api.Line) {
		percent, all := l.Tariff.Subsidy[l.Day.Bookings[booking].Job.Kind], line.Work+line.Travel
		if line.Total < 0 || line.Subsidy > l.Tariff.Cap || 100*line.Subsidy > percent*all {
			t.Errorf("the line of %v: %v", l, line)
		}
		if line.Subsidy > 0 {
			subsidies++
		}
		if line.Subsidy == l.Tariff.Cap {
			most++
		}
	})
	if subsidies < 300 || most < 50 {
		t.Errorf("the drawn ledgers have %d subsidies, of which %d are the greatest", subsidies, most)
	}
}

// P7.6
func TestSaved(t *testing.T) {
	l := one(at(600, 690, 1, 0), 10, func(l *api.Ledger) { l.Tariff.Notices = []api.Notice{notice(60, 100), notice(30, 10)} })
	early, late := called(l, 0, 500), called(l, 0, 580)
	for i, x := range []struct {
		l            api.Ledger
		minute, want int
	}{
		{l, 1440, 0}, {l, 601, 0}, {l, 600, 20}, {l, 571, 20}, {l, 570, 290}, {l, 541, 290}, {l, 540, 20}, {l, -100000, 20},
		{late, 1440, 0}, {late, 590, 0}, {late, 571, 0}, {late, 570, 270}, {late, 540, 0}, {early, 600, 0}, {early, 570, 0}, {early, -100000, 0},
		// a cancellation that is dearer
		{called(l, 0, 570), 540, -270}, {called(l, 0, 570), 541, 0}, {called(l, 0, 570), 1440, 0},
		// as many calls as there can be
		{changed(late, func(l *api.Ledger) { l.Calls = slices.Repeat(l.Calls, 10) }), 570, 270},
	} {
		if saved, e := bills.Saved(x.l, 0, x.minute); saved != x.want || e != api.OK {
			t.Errorf("%d: Saved of %v at %d: %d, %d, want %d", i, x.l, x.minute, saved, e, x.want)
		}
	}
	if saved, e := bills.Saved(fourBookings(), 2, 0); saved != 0 || e != api.OK {
		t.Errorf("Saved of a booking that is not served: %d, %d", saved, e)
	}
}

// P7.6, P7.10: on drawn ledgers.
func TestOneMoreCall(t *testing.T) {
	cheaper, dearer := 0, 0
	eachLedger(2000, func(r *rand.Rand, l api.Ledger) {
		if len(l.Day.Bookings) == 0 {
			return
		}
		l.Calls = slices.DeleteFunc(l.Calls, func(x api.Call) bool { return x.Id == 99 })
		booking, minute := r.IntN(len(l.Day.Bookings)), r.IntN(3000)-1600
		more := called(l, booking, minute)
		for other := range l.Day.Bookings {
			before, _ := lineOf(t, l, other)
			after, _ := lineOf(t, more, other)
			if other != booking && after != before {
				t.Errorf("the line of %d of %v is changed by a call of %d", other, l, booking)
			}
		}
		before, _ := lineOf(t, l, booking)
		after, _ := lineOf(t, more, booking)
		earlier, _ := lineOf(t, called(l, booking, minute-r.IntN(500)), booking)
		descend := !slices.IsSortedFunc(l.Tariff.Notices, func(x, y api.Notice) int { return x.Percent - y.Percent })
		if !descend && (after.Total > before.Total || earlier.Total > after.Total) {
			t.Errorf("the totals of %d of %v: %v, with a call at %d %v, with an earlier one %v", booking, l, before, minute, after, earlier)
		}
		if saved, e := bills.Saved(l, booking, minute); saved != before.Total-after.Total || e != api.OK {
			t.Errorf("Saved of %d of %v at %d: %d, %d", booking, l, minute, saved, e)
		}
		if after.Total < before.Total {
			cheaper++
		}
		if after.Total > before.Total {
			dearer++
		}
	})
	if cheaper < 200 || dearer < 10 {
		t.Errorf("of the drawn calls %d are cheaper, %d dearer", cheaper, dearer)
	}
}

// P7.7
func TestLatest(t *testing.T) {
	l := one(at(600, 690, 1, 0), 10, func(l *api.Ledger) {
		l.Tariff.Notices = []api.Notice{notice(100000, 0), notice(1000, 70), notice(60, 100), notice(30, 10)}
	})
	early, late := called(l, 0, 500), called(l, 0, 580)
	free := changed(l, func(l *api.Ledger) { l.Tariff.Notices = nil })
	start := changed(l, func(l *api.Ledger) { l.Tariff.Notices = []api.Notice{notice(0, 50)} })
	for i, x := range []struct {
		l          api.Ledger
		most, want int
		e          api.Errno
	}{
		{l, 1000000000, 600, api.OK}, {l, 320, 600, api.OK}, {l, 300, 600, api.OK}, {l, 299, 570, api.OK}, {l, 30, 570, api.OK}, {l, 29, -99400, api.OK}, {l, 0, -99400, api.OK},
		{late, 300, 600, api.OK}, {late, 299, 570, api.OK}, {early, 300, 600, api.OK}, {early, 299, -400, api.OK}, {early, 210, -400, api.OK}, {early, 209, -99400, api.OK},
		{free, 300, 600, api.OK}, {free, 299, 0, api.ErrNone}, {free, 0, 0, api.ErrNone}, {start, 150, 600, api.OK}, {start, 149, 0, api.ErrNone},
		{called(l, 0, 570), 30, 600, api.OK}, {called(l, 0, 570), 29, -99400, api.OK}, {called(l, 0, -99400), 0, 600, api.OK}, {called(l, 0, -99399), 0, -99400, api.OK},
		{changed(l, func(l *api.Ledger) { l.Tariff.Rate = 0 }), 0, 600, api.OK},
	} {
		if minute, e := bills.Latest(x.l, 0, x.most); minute != x.want || e != x.e {
			t.Errorf("%d: Latest of %v and %d: %d, %d, want %d, %d", i, x.l, x.most, minute, e, x.want, x.e)
		}
	}
	if minute, e := bills.Latest(fourBookings(), 2, 1000); minute != 0 || e != api.ErrNone {
		t.Errorf("Latest of a booking that is not served: %d, %d", minute, e)
	}
}

// P7.7, P7.13: on drawn ledgers, minute by minute.
func TestLastMinute(t *testing.T) {
	found := map[bool]int{}
	eachLedger(120, func(r *rand.Rand, l api.Ledger) {
		for booking, b := range l.Day.Bookings {
			members := len(teamOf(l, booking))
			if members == 0 {
				continue
			}
			work := wantWork(l, booking, members)
			most := r.IntN(work + 1)
			more := changed(l, func(l *api.Ledger) { l.Calls = append(l.Calls, call(100, booking, b.Start)) })
			last := &more.Calls[len(l.Calls)]
			for last.Minute >= -api.MaxBefore && wantLine(more, booking, members, work).Total > most {
				last.Minute--
			}
			minute, e := bills.Latest(l, booking, most)
			ok := last.Minute >= -api.MaxBefore
			found[ok && minute < b.Start]++
			if ok && (minute != last.Minute || e != api.OK) || !ok && (minute != 0 || e != api.ErrNone) {
				t.Errorf("Latest of %d of %v and %d: %d, %d, want %d", booking, l, most, minute, e, last.Minute)
			}
		}
	})
	if found[true] < 30 || found[false] < 30 {
		t.Errorf("Latest of drawn ledgers is before the start: %v", found)
	}
}
