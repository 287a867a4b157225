package bills

import (
	"slices"

	"handshape/api"
	"handshape/rosters"
)

// books is a ledger that has been checked, with the bills of all bookings that are served.
type books struct {
	api.Ledger
	bills map[int]bill
}

// read returns the first error of a ledger, or its books.
func read(l api.Ledger) (books, api.Errno) {
	if e := rosters.Check(l.Day); e != api.OK {
		return books{}, e
	}
	if !validLedger(l) {
		return books{}, api.ErrLedger
	}
	calls, clash := gather(l.Calls)
	if clash {
		return books{}, api.ErrCalls
	}
	return open(l, calls), api.OK
}

// open returns the books of a ledger without errors.
func open(l api.Ledger, calls map[int]api.Call) books {
	b := books{Ledger: l, bills: map[int]bill{}}
	served, _ := rosters.Served(l.Day)
	teams, _ := rosters.Teams(l.Day)
	for _, booking := range served {
		b.bills[booking] = b.bill(booking, elements(teams[booking]))
	}
	for _, x := range calls {
		if before, served := b.bills[x.Booking]; served {
			b.bills[x.Booking] = before.called(x.Minute)
		}
	}
	return b
}

// readFor returns the first error of a ledger and of other arguments that a function checks, or the books of the ledger.
func readFor(l api.Ledger, valid func(b books) bool) (books, api.Errno) {
	b, e := read(l)
	if e != api.OK {
		return books{}, e
	}
	if !valid(b) {
		return books{}, api.ErrArg
	}
	return b, api.OK
}

func (b books) hasBooking(n int) bool { return within(n, 0, len(b.Day.Bookings)-1) }

func within(n, low, high int) bool { return low <= n && n <= high }

func isPercent(n int) bool { return within(n, 0, 100) }

func isMinute(n int) bool { return within(n, -api.MaxBefore, api.MaxMinute) }

// allOf reports whether a slice has from least to most elements, and all of them are valid.
func allOf[T any](l []T, least, most int, valid func(T) bool) bool {
	return within(len(l), least, most) && !slices.ContainsFunc(l, func(x T) bool { return !valid(x) })
}

// validLedger reports whether a ledger is valid whose day is.
func validLedger(l api.Ledger) bool {
	bookings := len(l.Day.Bookings)
	validPayer := func(n int) bool { return within(n, 0, api.MaxPayer) }
	validTrip := func(n int) bool { return within(n, 0, api.MaxTravel) }
	validCall := func(x api.Call) bool {
		return within(x.Id, 0, api.MaxCall) && within(x.Booking, 0, bookings-1) && isMinute(x.Minute)
	}
	lists := allOf(l.Payers, bookings, bookings, validPayer) && allOf(l.Trips, bookings, bookings, validTrip)
	return lists && validTariff(l.Tariff) && allOf(l.Calls, 0, api.MaxCalls, validCall)
}

func validTariff(t api.Tariff) bool {
	validNotice := func(x api.Notice) bool { return within(x.Before, 0, api.MaxBefore) && isPercent(x.Percent) }
	units := within(t.Unit, 1, api.MaxUnit) && within(t.Rate, 0, api.MaxRate) && within(t.Least, 0, api.MaxLeast)
	night := 0 <= t.Dawn && t.Dawn <= t.Dusk && t.Dusk <= api.MaxMinute && isPercent(t.Night)
	travel := within(t.Minute, 0, api.MaxRate)
	subsidies := allOf(t.Subsidy, api.MaxKinds, api.MaxKinds, isPercent) && within(t.Cap, 0, api.MaxCap)
	return units && night && travel && subsidies && allOf(t.Notices, 0, api.MaxNotices, validNotice) && descend(t.Notices)
}

// descend reports whether notices stand in strictly descending order of their minutes.
func descend(l []api.Notice) bool {
	for i := 1; i < len(l); i++ {
		if l[i-1].Before <= l[i].Before {
			return false
		}
	}
	return true
}

// gather returns calls by their Ids, and whether some of them clash.
func gather(l []api.Call) (calls map[int]api.Call, clash bool) {
	calls = map[int]api.Call{}
	for _, x := range l {
		y, known := calls[x.Id]
		clash = clash || known && x != y
		calls[x.Id] = x
	}
	return calls, clash
}

// elements returns the elements of a set, in ascending order.
func elements(set int) []int {
	var l []int
	for i := 0; set>>i > 0; i++ {
		if set>>i&1 == 1 {
			l = append(l, i)
		}
	}
	return l
}
