package secrets_test

import (
	"math/rand/v2"
	"slices"
	"testing"

	"handshape/api"
	"handshape/bills"
	"handshape/secrets"
)

// drawBooking draws a booking for one person, at any kind of places.
func drawBooking(r *rand.Rand) api.Booking {
	start := r.IntN(1300)
	return api.Booking{Job: api.Job{To: 1, Size: 1, Kind: r.IntN(api.MaxKinds)}, Start: start, End: start + 1 + r.IntN(140)}
}

// drawLedger draws a ledger of at most four payers and four bookings, each with a person of its own, of whom some are not there; some bookings are cancelled.
func drawLedger(r *rand.Rand) api.Ledger {
	law := api.Law{Level: 1, Size: 1}
	l := api.Ledger{
		Day: api.Day{Crew: api.Crew{Languages: 2, Laws: []api.Law{law, law, law, law}}, Travel: [][]api.Span{{{}}}, Limit: 1440},
		Tariff: api.Tariff{
			Unit: 10 + r.IntN(60), Rate: r.IntN(60), Least: r.IntN(5), Dawn: r.IntN(500), Dusk: 500 + r.IntN(900), Night: r.IntN(101), Minute: r.IntN(4),
			Subsidy: []int{r.IntN(101), 0, r.IntN(101), r.IntN(101)}, Cap: r.IntN(500), Notices: []api.Notice{{Before: 60, Percent: r.IntN(101)}},
		},
	}
	for i := range 1 + r.IntN(api.MaxBookings) {
		l.Day.Crew.People = append(l.Day.Crew.People, api.Person{Levels: []int{5, 5}, Fields: 255, Clears: 15})
		l.Day.Bookings = append(l.Day.Bookings, drawBooking(r))
		if r.IntN(5) > 0 {
			l.Day.Shifts = append(l.Day.Shifts, api.Shift{Id: i, Kind: api.Assign, Booking: i, Person: i})
		}
		if r.IntN(3) == 0 {
			l.Calls = append(l.Calls, api.Call{Id: i, Booking: i, Minute: r.IntN(1440)})
		}
		l.Payers, l.Trips = append(l.Payers, r.IntN(api.MaxLines)), append(l.Trips, r.IntN(60))
	}
	return l
}

// sheetOf has for each payer what the payer pays for each kind of places.
func sheetOf(l api.Ledger, lines []api.Line) api.Sheet {
	s := even(slices.Max(l.Payers)+1, api.MaxKinds, 0, 10)
	for _, x := range lines {
		s.Amounts[x.Payer][l.Day.Bookings[x.Booking].Job.Kind] += x.Total
	}
	return s
}

func sum(l []int) int {
	n := 0
	for _, x := range l {
		n += x
	}
	return n
}

// P0.2
func TestTrueBill(t *testing.T) {
	r := chance()
	several, hidden := 0, 0
	for range 500 {
		l := drawLedger(r)
		lines, e := bills.Lines(l)
		totals, f := bills.Totals(l)
		people, _, fund, g := bills.Accounts(l)
		if e != api.OK || f != api.OK || g != api.OK {
			t.Fatalf("of %v: errors %d, %d, %d", l, e, f, g)
		}
		s := sheetOf(l, lines)
		s.Secret[r.IntN(len(s.Amounts))] = 1 << r.IntN(api.MaxKinds)
		masks := [][]int{make([]int, len(s.Amounts)), drawMask(r, s), slices.Repeat([]int{15}, len(s.Amounts))}
		if mask, e := secrets.Least(s); e == api.OK {
			masks = append(masks, mask)
			hidden++
		}
		if len(lines) > 1 && len(s.Amounts) > 1 {
			several++
		}
		for _, mask := range masks {
			p, e := secrets.Show(s, mask)
			if e != api.OK || !slices.Equal(p.Rows, totals) || p.All != sum(people)+fund {
				t.Errorf("Show of %v and %v: %v, %d, want the totals %v, %d and %d", s, mask, p, e, totals, sum(people), fund)
			}
		}
	}
	if several < 100 || hidden < 20 {
		t.Errorf("%d ledgers have several payers and lines, %d have a safe mask", several, hidden)
	}
}
