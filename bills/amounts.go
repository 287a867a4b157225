package bills

import (
	"slices"

	"handshape/api"
)

// bill is what is charged for a booking that is served.
type bill struct {
	api.Booking
	api.Tariff
	number, payer, trip int
	members             []int
	// cancelled is the minute of the cancellation; one after the start is none.
	cancelled int
}

// bill returns the bill of a booking with a team, without any calls.
func (b books) bill(booking int, members []int) bill {
	x := b.Day.Bookings[booking]
	return bill{Booking: x, Tariff: b.Tariff, number: booking, payer: b.Payers[booking], trip: b.Trips[booking], members: members, cancelled: x.Start + 1}
}

// called returns the bill with one more call at a minute.
func (b bill) called(minute int) bill {
	b.cancelled = min(b.cancelled, minute)
	return b
}

func (b bill) isCancelled() bool { return b.cancelled <= b.Start }

// roundedUp is a quotient of numbers that are not below 0.
func roundedUp(n, by int) int { return (n + by - 1) / by }

func (b bill) minutes() int { return b.End - b.Start }

// nightMinutes returns how many minutes of the booking are before dawn, or from dusk on; dawn is not after dusk, so that no minute is both.
func (b bill) nightMinutes() int {
	morning := max(0, min(b.End, b.Dawn)-b.Start)
	evening := max(0, b.End-max(b.Start, b.Dusk))
	return morning + evening
}

// fullWork returns the work of the booking if it is not cancelled.
func (b bill) fullWork() int {
	units := max(b.Least, roundedUp(b.minutes(), b.Unit))
	fees := len(b.members) * b.Rate * units
	return fees + roundedUp(fees*b.Night*b.nightMinutes(), 100*b.minutes())
}

// percent returns which part of the work is due. No notice applies to a booking that is not cancelled: each one is for minutes up to the start.
func (b bill) percent() int {
	for _, x := range b.Notices {
		if x.Before <= b.Start-b.cancelled {
			return x.Percent
		}
	}
	return 100
}

func (b bill) work() int { return roundedUp(b.fullWork()*b.percent(), 100) }

func (b bill) travel() int {
	if b.isCancelled() {
		return 0
	}
	return len(b.members) * b.Minute * b.trip
}

func (b bill) line() api.Line {
	work, travel := b.work(), b.travel()
	subsidy := min(b.Cap, (work+travel)*b.Subsidy[b.Job.Kind]/100)
	return api.Line{Payer: b.payer, Booking: b.number, Work: work, Travel: travel, Subsidy: subsidy, Total: work + travel - subsidy}
}

func (b bill) total() int { return b.line().Total }

// part returns what the member at an index gets of an amount: what cannot be divided goes to the first ones, one each.
func part(amount, members, index int) int {
	if index < amount%members {
		return amount/members + 1
	}
	return amount / members
}

// addPay adds what each member gets for the booking to what all people get.
func (b bill) addPay(people []int) {
	for i, person := range b.members {
		people[person] += part(b.work(), len(b.members), i) + part(b.travel(), len(b.members), i)
	}
}

// latest returns the greatest minute, up to the start, such that the total is at most some amount with one more call at this minute. Only where another notice begins to apply can a call change the total.
func (b bill) latest(most int) (int, api.Errno) {
	minutes := []int{b.Start}
	for _, x := range slices.Backward(b.Notices) {
		minutes = append(minutes, b.Start-x.Before)
	}
	for _, minute := range minutes {
		if b.called(minute).total() <= most {
			return minute, api.OK
		}
	}
	return 0, api.ErrNone
}

// totals returns for each payer the sum of the totals of all bills.
func (b books) totals() []int {
	if len(b.Payers) == 0 {
		return nil
	}
	totals := make([]int, slices.Max(b.Payers)+1)
	for _, x := range b.bills {
		totals[x.payer] += x.total()
	}
	return totals
}
