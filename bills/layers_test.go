package bills_test

import (
	"math/rand/v2"
	"testing"

	"handshape/api"
	"handshape/bills"
	"handshape/rosters"
)

// putPlan is a ledger with the teams of the plan of its day on the roster, whatever its shifts are; found is false if there is no plan.
func putPlan(r *rand.Rand, l api.Ledger) (planned api.Ledger, teams []int, found bool) {
	teams, _, e := rosters.Plan(l.Day)
	if e != api.OK {
		return l, nil, false
	}
	var shifts []api.Shift
	ids := r.Perm(api.MaxShift + 1)
	for booking, team := range teams {
		for person := range l.Day.Crew.People {
			if team/(1<<person)%2 == 1 {
				shifts = append(shifts, assign(ids[len(shifts)], r.IntN(9), booking, person))
			}
		}
	}
	l.Day.Shifts = shuffled(r, shifts, api.MaxShifts)
	return l, teams, true
}

// P0.8
func TestPaidPlan(t *testing.T) {
	planned := 0
	eachLedger(1000, func(r *rand.Rand, l api.Ledger) {
		l.Tariff.Rate++
		for i := range l.Day.Crew.People {
			p := &l.Day.Crew.People[i]
			p.Fee, p.Clears = r.IntN(10), 15&^(1<<r.IntN(8))
		}
		l, teams, found := putPlan(r, l)
		if !found {
			return
		}
		if len(teams) > 1 {
			planned++
		}
		if lines := linesOf(t, l); len(lines) != len(l.Day.Bookings) {
			t.Errorf("Lines of %v: %v", l, lines)
		}
		people, payers, fund, e := bills.Accounts(l)
		if e != api.OK || sum(people) != -sum(payers)-fund {
			t.Errorf("Accounts of %v: %v, %v, %d, %d", l, people, payers, fund, e)
		}
		// a cancelled booking can be due to nobody
		uncalled := changed(l, func(l *api.Ledger) { l.Calls = nil })
		for booking, team := range teams {
			if _, ok := lineOf(t, l, booking); !ok {
				t.Errorf("the booking %d of %v has no line", booking, l)
			}
			full, paid := payOf(t, uncalled, booking), payOf(t, l, booking)
			for person := range l.Day.Crew.People {
				member := team/(1<<person)%2 == 1
				if member != (full[person] > 0) || !member && paid[person] != 0 {
					t.Errorf("Pay of %d of %v: %v, without calls %v", booking, l, paid, full)
				}
			}
		}
	})
	if planned < 200 {
		t.Errorf("%d plans of drawn days have several bookings", planned)
	}
}
