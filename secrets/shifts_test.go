package secrets_test

import (
	"math"
	"math/rand/v2"
	"slices"
	"testing"

	"handshape/api"
	"handshape/secrets"
)

// ring is a sheet in which a row after the other must lose what the one before it has gained; all its other amounts are 1000.
func ring() (s api.Sheet, mask []int) {
	return api.Sheet{Amounts: [][]int{{7, 9, 1000, 1000}, {1000, 4, 8, 1000}, {1000, 1000, 5, 6}, {3, 1000, 1000, 2}}, Secret: []int{1, 0, 0, 0}, Gap: 5}, []int{3, 6, 12, 9}
}

// P8.3
func TestRange(t *testing.T) {
	round, roundMask := ring()
	zeros := changedS(func(s *api.Sheet) { s.Amounts[0][1], s.Amounts[1][0] = 0, 0 })
	steep := api.Sheet{Amounts: [][]int{{10000, 10000}, {10000, 10000}}, Secret: []int{0, 0}, Gap: 1}
	for i, x := range []struct {
		s           api.Sheet
		mask        []int
		row, column int
		low, high   int
	}{
		{sheetS(), []int{0, 3, 3}, 1, 0, 0, 25}, {sheetS(), []int{0, 3, 3}, 1, 1, 2, 27}, {sheetS(), []int{0, 3, 3}, 2, 0, 0, 25}, {sheetS(), []int{0, 3, 3}, 1, 2, 22, 22},
		// it is the only one in its row, or in its column, or all that goes out of its row must come back into it
		{sheetS(), []int{7, 1, 7}, 1, 0, 8, 8}, {sheetS(), []int{6, 7, 6}, 1, 0, 8, 8}, {sheetS(), []int{1, 0, 6}, 0, 0, 20, 20}, {sheetS(), []int{0, 3, 6}, 1, 1, 19, 19},
		// with all left out: up to the sum of the row or of the column, and down to 0, or to what the others cannot take
		{sheetS(), []int{7, 7, 7}, 0, 0, 0, 45}, {sheetS(), []int{7, 7, 7}, 0, 1, 0, 80}, {sheetS(), []int{7, 7, 7}, 2, 1, 0, 61}, {sheetS(), []int{7, 7, 7}, 2, 2, 0, 44},
		{even(1, 4, 5, 1), []int{15}, 0, 2, 5, 5}, {even(4, 1, 5, 1), []int{1, 1, 1, 1}, 2, 0, 5, 5}, {even(4, 4, 10000, 1), []int{15, 15, 15, 15}, 1, 2, 0, 40000},
		{even(2, 2, 0, 1), []int{3, 3}, 0, 0, 0, 0}, {zeros, []int{3, 3, 0}, 0, 0, 1, 20}, {zeros, []int{3, 3, 0}, 0, 1, 0, 19}, {zeros, []int{3, 3, 0}, 1, 1, 0, 19},
		{steep, []int{3, 3}, 0, 0, 0, 20000}, {steep, []int{3, 3}, 1, 0, 0, 20000}, {api.Sheet{Amounts: [][]int{{50, 3}, {2, 60}}, Secret: []int{0, 0}, Gap: 1}, []int{3, 3}, 0, 0, 0, 52},
		{api.Sheet{Amounts: [][]int{{50, 3}, {2, 40}}, Secret: []int{0, 0}, Gap: 1}, []int{3, 3}, 0, 0, 10, 52}, {api.Sheet{Amounts: [][]int{{50, 3}, {2, 60}}, Secret: []int{0, 0}, Gap: 1}, []int{3, 3}, 1, 0, 0, 52},
		// all rows and columns in turn
		{round, roundMask, 0, 0, 5, 10}, {round, roundMask, 0, 1, 6, 11}, {round, roundMask, 1, 1, 2, 7}, {round, roundMask, 3, 0, 0, 5},
	} {
		if got, e := secrets.Range(x.s, x.mask, x.row, x.column); got != (api.Span{Low: x.low, High: x.high}) || e != api.OK {
			t.Errorf("%d: Range of %v and %v, %d, %d = %v, %d, want %d to %d", i, x.s, x.mask, x.row, x.column, got, e, x.low, x.high)
		}
	}
}

// P8.3, P8.10: on small sheets, by all sheets that agree.
func TestRangeByAll(t *testing.T) {
	wide := 0
	eachSmall(6000, 16, func(r *rand.Rand, s api.Sheet, mask []int) {
		spans := spansByAll(s, mask)
		eachCell(s, func(row, column int) {
			got, want := rangeOf(t, s, mask, row, column), spans[row][column]
			if got != want {
				t.Errorf("Range of %v and %v, %d, %d = %v, want %v", s, mask, row, column, got, want)
			}
			if want.High > want.Low {
				wide++
			}
		})
	})
	if wide < 1000 {
		t.Errorf("%d ranges of small sheets have several numbers", wide)
	}
}

// P8.3: on sheets with any amounts, by what sets of rows and columns let through.
func TestRangeByCuts(t *testing.T) {
	wide, beyond := 0, 0
	eachLarge(3000, func(r *rand.Rand, s api.Sheet, mask []int) {
		row, column := r.IntN(len(s.Amounts)), r.IntN(len(s.Amounts[0]))
		got, want := rangeOf(t, s, mask, row, column), spanByCuts(s, mask, row, column)
		if got != want {
			t.Errorf("Range of %v and %v, %d, %d = %v, want %v", s, mask, row, column, got, want)
		}
		if want.High > want.Low {
			wide++
		}
		if want.High > api.MaxSum {
			beyond++
		}
	})
	if wide < 100 || beyond < 10 {
		t.Errorf("%d ranges have several numbers, %d end above the greatest amount", wide, beyond)
	}
}

// P8.5
func TestOther(t *testing.T) {
	round, roundMask := ring()
	more := [][]int{{10, 6, 1000, 1000}, {1000, 7, 5, 1000}, {1000, 1000, 8, 3}, {0, 1000, 1000, 5}}
	less := [][]int{{5, 11, 1000, 1000}, {1000, 2, 10, 1000}, {1000, 1000, 3, 8}, {5, 1000, 1000, 0}}
	for i, x := range []struct {
		s                   api.Sheet
		mask                []int
		row, column, amount int
		want                [][]int
		e                   api.Errno
	}{
		{sheetS(), []int{0, 3, 3}, 2, 1, 32, sheetS().Amounts, api.OK}, {sheetS(), []int{0, 3, 3}, 2, 1, 24, [][]int{{20, 50, 10}, {0, 27, 22}, {25, 24, 12}}, api.OK}, {sheetS(), []int{0, 3, 3}, 2, 1, 49, [][]int{{20, 50, 10}, {25, 2, 22}, {0, 49, 12}}, api.OK},
		{sheetS(), []int{0, 3, 3}, 2, 1, 23, nil, api.ErrNone}, {sheetS(), []int{0, 3, 3}, 2, 1, 0, nil, api.ErrNone}, {sheetS(), []int{0, 3, 3}, 1, 0, -1, nil, api.ErrNone},
		{sheetS(), []int{0, 3, 3}, 1, 0, math.MinInt, nil, api.ErrNone}, {sheetS(), []int{0, 3, 3}, 1, 0, math.MaxInt, nil, api.ErrNone},
		// the amount is not left out
		{sheetS(), []int{0, 3, 3}, 0, 0, 20, sheetS().Amounts, api.OK}, {sheetS(), []int{0, 3, 3}, 0, 0, 21, nil, api.ErrNone}, {sheetS(), []int{0, 3, 3}, 0, 0, 19, nil, api.ErrNone},
		{sheetS(), []int{0, 0, 0}, 2, 2, 12, sheetS().Amounts, api.OK}, {sheetS(), []int{7, 5, 7}, 1, 1, 19, sheetS().Amounts, api.OK}, {sheetS(), []int{7, 5, 7}, 1, 1, 18, nil, api.ErrNone}, {sheetS(), []int{7, 5, 7}, 1, 1, 0, nil, api.ErrNone},
		{round, roundMask, 0, 0, 10, more, api.OK}, {round, roundMask, 0, 0, 5, less, api.OK}, {round, roundMask, 0, 0, 11, nil, api.ErrNone}, {round, roundMask, 0, 0, 4, nil, api.ErrNone},
		{even(2, 2, 10000, 1), []int{3, 3}, 0, 0, 20000, [][]int{{20000, 0}, {0, 20000}}, api.OK}, {even(2, 2, 0, 1), []int{3, 3}, 0, 0, 0, [][]int{{0, 0}, {0, 0}}, api.OK},
	} {
		if l, e := secrets.Other(x.s, x.mask, x.row, x.column, x.amount); !sameTable(l, x.want) || e != x.e {
			t.Errorf("%d: Other = %v, %d, want %v, %d", i, l, e, x.want, x.e)
		}
	}
}

// checkOther checks that Other finds a sheet that agrees for each of some amounts that is in a span, and none for the others.
func checkOther(t *testing.T, s api.Sheet, mask []int, row, column int, x api.Span, amounts ...int) {
	t.Helper()
	for _, amount := range amounts {
		l, e := secrets.Other(s, mask, row, column, amount)
		if x.Low <= amount && amount <= x.High {
			if e != api.OK || !agrees(s, mask, l) || l[row][column] != amount {
				t.Errorf("Other of %v and %v, %d, %d, %d = %v, %d", s, mask, row, column, amount, l, e)
			}
		} else if e != api.ErrNone || len(l) != 0 {
			t.Errorf("Other of %v and %v, %d, %d, %d = %v, %d", s, mask, row, column, amount, l, e)
		}
	}
}

// P8.5, P8.10: both ends of each range, and all numbers between them, are shown, no others are.
func TestOthersOfAll(t *testing.T) {
	eachSmall(2000, 16, func(r *rand.Rand, s api.Sheet, mask []int) {
		spans := spansByAll(s, mask)
		eachCell(s, func(row, column int) {
			for amount := range spans[row][column].High + 3 {
				checkOther(t, s, mask, row, column, spans[row][column], amount-1)
			}
		})
	})
}

// P8.5, P8.10: on sheets with any amounts.
func TestOthersOfLarge(t *testing.T) {
	eachLarge(3000, func(r *rand.Rand, s api.Sheet, mask []int) {
		row, column := r.IntN(len(s.Amounts)), r.IntN(len(s.Amounts[0]))
		x := rangeOf(t, s, mask, row, column)
		checkOther(t, s, mask, row, column, x, -1, x.Low-1, x.Low, x.Low+r.IntN(x.High-x.Low+1), (x.Low+x.High)/2, x.High, x.High+1, math.MaxInt, math.MinInt)
	})
}

// P8.8, P8.11: two sheets that agree have the same print and the same ranges.
func TestNobodyCanTell(t *testing.T) {
	told := 0
	eachLarge(800, func(r *rand.Rand, s api.Sheet, mask []int) {
		row, column := r.IntN(len(s.Amounts)), r.IntN(len(s.Amounts[0]))
		x := rangeOf(t, s, mask, row, column)
		other := copied(s)
		other.Amounts, _ = secrets.Other(s, mask, row, column, x.Low+r.IntN(x.High-x.Low+1))
		if secrets.Check(other) != api.OK {
			return // an amount is greater than those of valid sheets
		}
		if !sameTable(other.Amounts, s.Amounts) {
			told++
		}
		if same, e := secrets.Same(s, other, mask); !same || e != api.OK || !samePrint(shownOf(t, s, mask), shownOf(t, other, mask)) {
			t.Errorf("Same of %v, %v and %v: %v, %d", s, other, mask, same, e)
		}
		eachCell(s, func(row, column int) {
			if a, b := rangeOf(t, s, mask, row, column), rangeOf(t, other, mask, row, column); a != b {
				t.Errorf("Range of %v, %v and %v, %d, %d: %v and %v", s, other, mask, row, column, a, b)
			}
		})
	})
	if told < 100 {
		t.Errorf("%d drawn sheets have another one that agrees", told)
	}
}

// P8.8: two sheets have the same print just if they agree.
func TestSameOfDrawn(t *testing.T) {
	found := map[bool]int{}
	eachSmall(2000, 6, func(r *rand.Rand, s api.Sheet, mask []int) {
		other := copied(s)
		for range 1 + r.IntN(4) {
			row, column := r.IntN(len(s.Amounts)), r.IntN(len(s.Amounts[0]))
			by, to := r.IntN(3)-1, r.IntN(len(s.Amounts))
			other.Amounts[row][column] += by
			other.Amounts[to][column] -= by
		}
		if secrets.Check(other) != api.OK {
			return
		}
		want := agrees(s, mask, other.Amounts)
		found[want]++
		if same, e := secrets.Same(s, other, mask); same != want || e != api.OK {
			t.Errorf("Same of %v, %v and %v = %v, %d", s, other, mask, same, e)
		}
	})
	if found[true] < 100 || found[false] < 100 {
		t.Errorf("drawn sheets agree: %v", found)
	}
}

// P8.12: with more amounts left out no range is narrower.
func TestNoNarrower(t *testing.T) {
	wider := 0
	eachLarge(400, func(r *rand.Rand, s api.Sheet, mask []int) {
		more := slices.Clone(mask)
		for row, set := range drawMask(r, s) {
			more[row] |= set
		}
		eachCell(s, func(row, column int) {
			a, b := rangeOf(t, s, mask, row, column), rangeOf(t, s, more, row, column)
			if b.Low > a.Low || b.High < a.High {
				t.Errorf("Range of %v, %d, %d: %v with %v, %v with %v", s, row, column, a, mask, b, more)
			}
			if a != b {
				wider++
			}
		})
	})
	if wider < 100 {
		t.Errorf("%d ranges are wider with more amounts left out", wider)
	}
}

// P8.14: an amount that is left out alone in its row, or in its column, is known.
func TestAlone(t *testing.T) {
	alone := 0
	eachLarge(400, func(r *rand.Rand, s api.Sheet, mask []int) {
		row, column := r.IntN(len(s.Amounts)), r.IntN(len(s.Amounts[0]))
		if r.IntN(2) == 0 {
			mask[row] = 0
		} else {
			for i := range mask {
				mask[i] &^= 1 << column
			}
		}
		mask[row] |= 1 << column
		n := s.Amounts[row][column]
		if x := rangeOf(t, s, mask, row, column); x != (api.Span{Low: n, High: n}) {
			t.Errorf("Range of %v and %v, %d, %d = %v", s, mask, row, column, x)
		}
		if slices.Max(mask) > 0 {
			alone++
		}
	})
	if alone < 100 {
		t.Errorf("%d amounts are left out alone", alone)
	}
}
