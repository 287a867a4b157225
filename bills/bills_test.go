package bills_test

import (
	"slices"
	"testing"

	"handshape/api"
	"handshape/bills"
)

// TestExamples has the table of the chapter's examples, and the row of package bills in the document's section Examples.
func TestExamples(t *testing.T) {
	l := ledgerL()
	want := []api.Line{
		{Payer: 0, Booking: 0, Work: 250, Travel: 60, Subsidy: 0, Total: 310},
		{Payer: 0, Booking: 2, Work: 600, Travel: 180, Subsidy: 150, Total: 630},
		{Payer: 1, Booking: 1, Work: 100, Travel: 0, Subsidy: 0, Total: 100},
	}
	if lines, e := bills.Lines(l); !slices.Equal(lines, want) || e != api.OK {
		t.Errorf("Lines: %v, %d", lines, e)
	}
	if totals, e := bills.Totals(l); !slices.Equal(totals, []int{940, 100}) || e != api.OK {
		t.Errorf("Totals: %v, %d", totals, e)
	}
	if pay, e := bills.Pay(l, 2); !slices.Equal(pay, []int{390, 390, 0, 0}) || e != api.OK {
		t.Errorf("Pay: %v, %d", pay, e)
	}
	people, payers, fund, e := bills.Accounts(l)
	if !slices.Equal(people, []int{390, 390, 0, 410}) || !slices.Equal(payers, []int{-940, -100}) || fund != -150 || e != api.OK {
		t.Errorf("Accounts: %v, %v, %d, %d", people, payers, fund, e)
	}
	for minute, want := range map[int]int{-940: 310, 0: 185, 30: 60} {
		if saved, e := bills.Saved(l, 0, minute); saved != want || e != api.OK {
			t.Errorf("Saved at %d: %d, %d", minute, saved, e)
		}
	}
	for most, want := range map[int]int{200: 0, 0: -940} {
		if minute, e := bills.Latest(l, 0, most); minute != want || e != api.OK {
			t.Errorf("Latest of %d: %d, %d", most, minute, e)
		}
	}
}
