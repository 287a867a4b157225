package desks_test

import (
	"math/rand/v2"
	"slices"
	"testing"

	"handshape/api"
	"handshape/bills"
	"handshape/desks"
	"handshape/rosters"
	"handshape/secrets"
)

func sum(l []int) int {
	n := 0
	for _, x := range l {
		n += x
	}
	return n
}

// P0.4
func TestMetDesks(t *testing.T) {
	served, cancelled := 0, 0
	s := serviceW()
	eachMet(t, s, 300, func(_ *rand.Rand, held []api.Desk, one api.Desk) {
		teams, e := rosters.Teams(dayOf(s, one))
		lines, f := bills.Lines(ledgerOf(s, one))
		if e != api.OK || f != api.OK {
			t.Fatalf("one desk holds %v: errors %d, %d", one, e, f)
		}
		served += len(lines)
		cancelled += len(one.Calls)
		for i, d := range held {
			sets, e := rosters.Teams(dayOf(s, d))
			if bill, f := bills.Lines(ledgerOf(s, d)); e != api.OK || f != api.OK || !slices.Equal(sets, teams) || !slices.Equal(bill, lines) {
				t.Errorf("the desk %d: Teams = %v, %d, Lines = %v, %d, want %v and %v", i, sets, e, bill, f, teams, lines)
			}
			people, payers, fund, e := bills.Accounts(ledgerOf(s, d))
			if e != api.OK || sum(people)+sum(payers)+fund != 0 {
				t.Errorf("Accounts of the desk %d: %v, %v, %d, %d", i, people, payers, fund, e)
			}
		}
	})
	if served < 200 || cancelled < 200 {
		t.Errorf("the drawn desks have %d lines of bills and %d calls", served, cancelled)
	}
}

// P0.4: also while the desks have not met, the accounts of each balance.
func TestAccountsOfEachDesk(t *testing.T) {
	eachScript(300, func(_ *rand.Rand, s api.Service, script []string) {
		_, held := run(t, s, script)
		for i, d := range held {
			people, payers, fund, e := bills.Accounts(ledgerOf(s, d))
			if e != api.OK || sum(people)+sum(payers)+fund != 0 {
				t.Errorf("after %q Accounts of the desk %d: %v, %v, %d, %d", script, i, people, payers, fund, e)
			}
		}
	})
}

// sheetOf has for each payer what the payer pays for each kind of places at a desk.
func sheetOf(t *testing.T, s api.Service, d api.Desk) api.Sheet {
	t.Helper()
	lines, e := bills.Lines(ledgerOf(s, d))
	if e != api.OK {
		t.Fatalf("Lines of %v: error %d", d, e)
	}
	x := api.Sheet{Amounts: [][]int{make([]int, api.MaxKinds), make([]int, api.MaxKinds)}, Secret: []int{1, 0}, Gap: 20}
	for _, line := range lines {
		x.Amounts[line.Payer][s.Ledger.Day.Bookings[line.Booking].Job.Kind] += line.Total
	}
	return x
}

func samePrint(p, q api.Print) bool {
	return slices.EqualFunc(p.Amounts, q.Amounts, slices.Equal[[]int]) && slices.Equal(p.Rows, q.Rows) && slices.Equal(p.Cols, q.Cols) && p.All == q.All
}

// P0.5
func TestToldSums(t *testing.T) {
	safe, told := 0, 0
	s := serviceW()
	eachMet(t, s, 200, func(r *rand.Rand, held []api.Desk, one api.Desk) {
		sheet := sheetOf(t, s, one)
		smallest, e := secrets.Least(sheet)
		if e == api.OK {
			safe++
		}
		for i, d := range held {
			other := sheetOf(t, s, d)
			if mask, f := secrets.Least(other); f != e || !slices.Equal(mask, smallest) {
				t.Errorf("Least of the desk %d = %v, %d, want %v, %d", i, mask, f, smallest, e)
			}
			for range 5 {
				mask := []int{r.IntN(16), r.IntN(16)}
				want, e := secrets.Show(sheet, mask)
				if p, f := secrets.Show(other, mask); e != api.OK || f != api.OK || !samePrint(p, want) {
					t.Errorf("Show of the desk %d with %v = %v, %d, want %v, %d", i, mask, p, f, want, e)
				}
				told += want.All
			}
			totals, e := bills.Totals(ledgerOf(s, d))
			if p, f := secrets.Show(other, []int{15, 15}); e != api.OK || f != api.OK || !slices.Equal(p.Rows, totals) {
				t.Errorf("the rows of the desk %d have the sums %v, %d, not %v, %d", i, p.Rows, f, totals, e)
			}
		}
	})
	if safe < 5 || told == 0 {
		t.Errorf("%d sheets have a safe mask, their sums are %d", safe, told)
	}
}

// P0.6
func TestFiled(t *testing.T) {
	filed := 0
	eachScript(300, func(_ *rand.Rand, s api.Service, script []string) {
		text, e := desks.Write(script)
		if e != api.OK {
			t.Fatalf("Write of %q: error %d", script, e)
		}
		again, at, e := desks.Read(text)
		if at != 0 || e != api.OK {
			t.Fatalf("Read of %q: %d, %d", text, at, e)
		}
		answers, held := run(t, s, script)
		answersAgain, heldAgain := run(t, s, again)
		if !slices.Equal(answersAgain, answers) || !slices.EqualFunc(heldAgain, held, sameDesk) {
			t.Errorf("%q is answered %q, read from its file %q", script, answers, answersAgain)
		}
		filed += len(again)
	})
	if filed < 1000 {
		t.Errorf("the drawn scripts have %d lines", filed)
	}
}
