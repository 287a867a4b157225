package secrets_test

import (
	"math"
	"math/rand/v2"
	"slices"
	"testing"

	"handshape/api"
	"handshape/secrets"
)

// validSheets has sheets with each number at its bounds, and of the least and the greatest sizes.
func validSheets() []api.Sheet {
	all := []api.Sheet{sheetS(), sheetT(), sheetU(), even(1, 1, 0, 1), even(1, 4, 3, 5), even(4, 1, 3, 5), even(4, 4, 10000, 1000)}
	for _, change := range []func(s *api.Sheet){
		func(s *api.Sheet) { s.Gap = 1 }, func(s *api.Sheet) { s.Gap = 1000 },
		func(s *api.Sheet) { s.Amounts[0][0] = 0 }, func(s *api.Sheet) { s.Amounts[2][2] = 10000 },
		func(s *api.Sheet) { s.Secret = []int{7, 0, 7} }, func(s *api.Sheet) { s.Secret = []int{0, 0, 0} },
		func(s *api.Sheet) { s.Amounts[1] = s.Amounts[0] },
	} {
		all = append(all, changedS(change))
	}
	return all
}

// invalidSheets has sheets with each number and each length just beyond its bounds.
func invalidSheets() []api.Sheet {
	all := []api.Sheet{{}, {Gap: 1}, {Amounts: [][]int{}, Secret: []int{}, Gap: 1}, even(0, 0, 0, 5), even(1, 0, 0, 5), even(4, 0, 0, 5), even(5, 1, 0, 5), even(1, 5, 0, 5), even(5, 4, 0, 5), even(4, 5, 0, 5), even(1000, 1000, 0, 5)}
	for _, change := range []func(s *api.Sheet){
		func(s *api.Sheet) { s.Amounts = nil }, func(s *api.Sheet) { s.Amounts = s.Amounts[:2] }, func(s *api.Sheet) { s.Amounts = append(s.Amounts, []int{1, 2, 3}) },
		func(s *api.Sheet) { s.Amounts[0] = nil }, func(s *api.Sheet) { s.Amounts[2] = nil }, func(s *api.Sheet) { s.Amounts = [][]int{nil, nil, nil} },
		func(s *api.Sheet) { s.Amounts[0] = []int{1, 2} }, func(s *api.Sheet) { s.Amounts[2] = []int{1, 2} },
		func(s *api.Sheet) { s.Amounts[0] = []int{1, 2, 3, 4} }, func(s *api.Sheet) { s.Amounts[1] = []int{1, 2, 3, 4} },
		func(s *api.Sheet) { s.Secret = nil }, func(s *api.Sheet) { s.Secret = s.Secret[:2] }, func(s *api.Sheet) { s.Secret = append(s.Secret, 0) },
	} {
		all = append(all, changedS(change))
	}
	for _, n := range []int{-1, math.MinInt, math.MaxInt} {
		all = append(all, changedS(func(s *api.Sheet) { s.Amounts[0][0] = n }), changedS(func(s *api.Sheet) { s.Amounts[2][2] = n }))
		all = append(all, changedS(func(s *api.Sheet) { s.Secret[0] = n }), changedS(func(s *api.Sheet) { s.Secret[2] = n }), changedS(func(s *api.Sheet) { s.Gap = n }))
	}
	return append(all,
		changedS(func(s *api.Sheet) { s.Amounts[1][1] = 10001 }), changedS(func(s *api.Sheet) { s.Secret[0] = 8 }), changedS(func(s *api.Sheet) { s.Secret[2] = 9 }),
		changedS(func(s *api.Sheet) { s.Gap = 0 }), changedS(func(s *api.Sheet) { s.Gap = 1001 }),
	)
}

// invalidMasks are no masks of the sheet S.
func invalidMasks() [][]int {
	return [][]int{
		nil, {}, {0}, {0, 3}, {0, 3, 3, 0}, slices.Repeat([]int{0}, 1000), {-1, 3, 3}, {0, 3, -1}, {8, 3, 3}, {0, 8, 3}, {0, 3, 8}, {0, 3, 15},
		{math.MinInt, 3, 3}, {math.MaxInt, 3, 3}, {0, 3, math.MinInt}, {0, 3, math.MaxInt},
	}
}

// P8.1
func TestCheck(t *testing.T) {
	for i, s := range validSheets() {
		if e := secrets.Check(s); e != api.OK {
			t.Errorf("%d: Check of %v = %d", i, s, e)
		}
	}
	for i, s := range invalidSheets() {
		if e := secrets.Check(s); e != api.ErrSheet {
			t.Errorf("%d: Check of %v = %d", i, s, e)
		}
	}
}

// P1, R1, R2: the error of the sheet comes before those of the mask, and of all other arguments.
func TestErrors(t *testing.T) {
	for i, s := range invalidSheets() {
		for _, mask := range append(invalidMasks(), []int{0, 3, 3}, make([]int, len(s.Amounts))) {
			for _, n := range []int{-1, 0, 2, 3, math.MinInt, math.MaxInt} {
				got := resultsOf(s, mask, n, n, n)
				if !slices.Equal(got.errors, slices.Repeat([]api.Errno{api.ErrSheet}, 8)) || !got.isZero() {
					t.Errorf("%d: of %v, %v and %d: %v", i, s, mask, n, got)
				}
			}
		}
	}
}

// P1, R1, R2: the error of the mask comes before those of rows, columns and amounts.
func TestErrorsOfMasks(t *testing.T) {
	want := []api.Errno{api.OK, api.ErrMask, api.ErrMask, api.ErrMask, api.ErrMask, api.OK, api.OK, api.ErrMask}
	for _, mask := range invalidMasks() {
		for _, n := range []int{-1, 0, 2, 3, math.MinInt, math.MaxInt} {
			if got := resultsOf(sheetS(), mask, n, n, n); !slices.Equal(got.errors, want) || !got.isZero() {
				t.Errorf("of %v and %d: %v", mask, n, got)
			}
		}
	}
	// a set of columns is one of those that the sheet has
	for set, want := range map[int]api.Errno{1: api.OK, 2: api.ErrMask, 15: api.ErrMask} {
		if _, e := secrets.Show(even(1, 1, 5, 1), []int{set}); e != want {
			t.Errorf("Show of one amount with %d: error %d", set, e)
		}
		if _, e := secrets.Show(even(1, 4, 5, 1), []int{set}); e != api.OK {
			t.Errorf("Show of four amounts with %d: error %d", set, e)
		}
	}
}

// P1, R1, R2: rows and columns that the sheet does not have come before amounts that cannot be.
func TestErrorsOfCells(t *testing.T) {
	// two rows and three columns
	s := changedS(func(s *api.Sheet) { s.Amounts, s.Secret = s.Amounts[1:], s.Secret[1:] })
	numbers := []int{-1, 0, 1, 2, 3, 4, math.MinInt, math.MaxInt}
	for _, row := range numbers {
		for _, column := range numbers {
			for _, amount := range []int{math.MinInt, -1, 1 << 30, math.MaxInt} {
				want := api.ErrNone
				if row < 0 || row > 1 || column < 0 || column > 2 {
					want = api.ErrArg
				}
				got := resultsOf(s, []int{3, 7}, row, column, amount)
				if got.errors[4] != want || (got.errors[2] == api.ErrArg) != (want == api.ErrArg) || !got.isZero() {
					t.Errorf("of %d, %d and %d: %v", row, column, amount, got)
				}
			}
		}
	}
}

// P8.8: the errors of two sheets.
func TestErrorsOfSame(t *testing.T) {
	wide := changedS(func(s *api.Sheet) {
		for row := range s.Amounts {
			s.Amounts[row] = append(s.Amounts[row], 0)
		}
	})
	for i, x := range []struct {
		a, b api.Sheet
		mask []int
		want api.Errno
	}{
		{api.Sheet{}, sheetS(), nil, api.ErrSheet}, {sheetS(), api.Sheet{}, nil, api.ErrSheet}, {sheetS(), api.Sheet{}, []int{0, 0, 0}, api.ErrSheet}, {api.Sheet{}, api.Sheet{}, nil, api.ErrSheet},
		{sheetS(), even(1, 1, 0, 1), nil, api.ErrMask}, {sheetS(), even(1, 1, 0, 1), []int{0}, api.ErrMask}, {sheetS(), wide, []int{0, 0, 8}, api.ErrMask},
		{sheetS(), even(1, 1, 0, 1), []int{0, 0, 0}, api.ErrArg}, {even(1, 1, 0, 1), sheetS(), []int{0}, api.ErrArg}, {sheetS(), wide, []int{7, 7, 7}, api.ErrArg}, {wide, sheetS(), []int{8, 0, 0}, api.ErrArg},
		{even(2, 3, 0, 1), even(3, 2, 0, 1), []int{3, 3}, api.ErrArg}, {even(2, 3, 0, 1), even(3, 3, 0, 1), []int{3, 3}, api.ErrArg}, {even(3, 3, 0, 1), even(2, 3, 0, 1), []int{3, 3, 0}, api.ErrArg},
	} {
		if same, e := secrets.Same(x.a, x.b, x.mask); same || e != x.want {
			t.Errorf("%d: Same = %v, %d, want error %d", i, same, e, x.want)
		}
	}
}

// P1: extreme numbers and long slices lead to an error or to a result, never to a panic.
func TestAnyArguments(t *testing.T) {
	r := chance()
	number := func() int {
		return []int{math.MinInt, math.MinInt + 1, -2, -1, 0, 0, 0, 1, 1, 2, 3, 3, 4, 7, 8, 15, 1000, 10000, 1 << 40, math.MaxInt}[r.IntN(20)]
	}
	list := func(most int) []int {
		var l []int
		for range r.IntN(most + 1) {
			l = append(l, number())
		}
		return l
	}
	for range 2000 {
		x := api.Sheet{Secret: list(5), Gap: number()}
		for range r.IntN(6) {
			x.Amounts = append(x.Amounts, list(5))
		}
		y := changedS(func(s *api.Sheet) { s.Amounts[r.IntN(3)][r.IntN(3)], s.Secret[r.IntN(3)] = number(), number() })
		z := changedS(func(s *api.Sheet) { s.Amounts[r.IntN(3)], s.Gap = list(4), number() })
		for _, s := range []api.Sheet{{}, x, y, z, sheetS()} {
			resultsOf(s, list(5), number(), number(), number())
			resultsOf(s, []int{0, 3, r.IntN(8)}, r.IntN(3), r.IntN(3), number())
			secrets.Same(s, x, list(5))
			secrets.Same(s, y, []int{0, 3, 7})
		}
	}
}

// R4: the arguments stay as they are, and the results share no memory with them, nor parts of a result with each other.
func TestArgumentsStay(t *testing.T) {
	// slices with room behind their ends, so that what is added there would be seen
	s, all := sheetS(), []int{20, 50, 10, 8, 19, 22, 17, 32, 12}
	for row := range s.Amounts {
		s.Amounts[row] = all[3*row : 3*row+3]
	}
	mask := []int{0, 3, 3, 99}
	for _, amount := range []int{32, 40} {
		got := resultsOf(s, mask[:3], 2, 1, amount)
		for _, table := range [][][]int{got.shown.Amounts, got.other} {
			before := slices.Clone(table[1])
			clear(append(table[0], 99))
			if !slices.Equal(table[1], before) {
				t.Errorf("two rows share memory: %v", table)
			}
			clear(table[1])
			clear(table[2])
			clear(table)
		}
		for _, l := range [][]int{got.shown.Rows, got.shown.Cols, got.least, got.worth} {
			clear(append(l, 99))
		}
	}
	if !slices.Equal(all, []int{20, 50, 10, 8, 19, 22, 17, 32, 12}) || !sameTable(s.Amounts, sheetS().Amounts) || !slices.Equal(s.Secret, []int{0, 0, 2}) || !slices.Equal(mask, []int{0, 3, 3, 99}) {
		t.Errorf("the arguments are changed: %v, %v, %v", s, all, mask)
	}
}

// P1: rows that share their memory are two rows.
func TestSharedRows(t *testing.T) {
	row := []int{5, 7}
	s := api.Sheet{Amounts: [][]int{row, row}, Secret: []int{1, 0}, Gap: 12}
	if x := rangeOf(t, s, []int{3, 3}, 0, 0); x != (api.Span{Low: 0, High: 10}) {
		t.Errorf("Range: %v", x)
	}
	if l, e := secrets.Other(s, []int{3, 3}, 0, 0, 9); !sameTable(l, [][]int{{9, 3}, {1, 11}}) || e != api.OK || !slices.Equal(row, []int{5, 7}) {
		t.Errorf("Other: %v, %d", l, e)
	}
}

// P8.2
func TestShow(t *testing.T) {
	rows, columns := []int{80, 49, 61}, []int{45, 101, 44}
	for i, x := range []struct {
		s    api.Sheet
		mask []int
		want api.Print
	}{
		{sheetS(), []int{0, 0, 0}, api.Print{Amounts: sheetS().Amounts, Rows: rows, Cols: columns, All: 190}},
		{sheetS(), []int{7, 7, 7}, api.Print{Amounts: [][]int{{-1, -1, -1}, {-1, -1, -1}, {-1, -1, -1}}, Rows: rows, Cols: columns, All: 190}},
		{sheetS(), []int{1, 2, 4}, api.Print{Amounts: [][]int{{-1, 50, 10}, {8, -1, 22}, {17, 32, -1}}, Rows: rows, Cols: columns, All: 190}},
		{sheetS(), []int{5, 0, 6}, api.Print{Amounts: [][]int{{-1, 50, -1}, {8, 19, 22}, {17, -1, -1}}, Rows: rows, Cols: columns, All: 190}},
		{even(1, 1, 0, 1), []int{0}, api.Print{Amounts: [][]int{{0}}, Rows: []int{0}, Cols: []int{0}}}, {even(1, 1, 0, 1), []int{1}, api.Print{Amounts: [][]int{{-1}}, Rows: []int{0}, Cols: []int{0}}},
		{even(2, 4, 10000, 1), []int{0, 8}, api.Print{Amounts: [][]int{{10000, 10000, 10000, 10000}, {10000, 10000, 10000, -1}}, Rows: []int{40000, 40000}, Cols: []int{20000, 20000, 20000, 20000}, All: 80000}},
		{even(4, 1, 3, 1), []int{1, 0, 0, 1}, api.Print{Amounts: [][]int{{-1}, {3}, {3}, {-1}}, Rows: []int{3, 3, 3, 3}, Cols: []int{12}, All: 12}},
	} {
		if p, e := secrets.Show(x.s, x.mask); !samePrint(p, x.want) || e != api.OK {
			t.Errorf("%d: Show = %v, %d, want %v", i, p, e, x.want)
		}
	}
}

// P8.2, P8.9: on drawn sheets.
func TestTruePrint(t *testing.T) {
	eachLarge(500, func(r *rand.Rand, s api.Sheet, mask []int) {
		p := shownOf(t, s, mask)
		if len(p.Rows) != len(s.Amounts) || len(p.Cols) != len(s.Amounts[0]) || len(p.Amounts) != len(s.Amounts) {
			t.Fatalf("Show of %v and %v: %v", s, mask, p)
		}
		rows, columns, all := p.Rows, p.Cols, 0
		for _, n := range rows {
			all += n
		}
		for _, n := range columns {
			all += n
		}
		if all != 2*p.All {
			t.Errorf("Show of %v and %v: the sums of rows and columns are not %d each: %v", s, mask, p.All, p)
		}
		eachCell(s, func(row, column int) {
			want := s.Amounts[row][column]
			rows[row] -= want
			columns[column] -= want
			if isIn(mask[row], column) {
				want = -1
			}
			if len(p.Amounts[row]) != len(s.Amounts[row]) || p.Amounts[row][column] != want {
				t.Errorf("Show of %v and %v: %v", s, mask, p)
			}
		})
		if slices.ContainsFunc(append(rows, columns...), func(n int) bool { return n != 0 }) {
			t.Errorf("Show of %v and %v: the sums are not true", s, mask)
		}
	})
}

// P8.8
func TestSame(t *testing.T) {
	first := func(n int) api.Sheet { return changedS(func(s *api.Sheet) { s.Amounts[0][0] = n }) }
	// moved has a row and a column with other sums
	moved := changedS(func(s *api.Sheet) { s.Amounts[1][0], s.Amounts[2][0] = 7, 18 })
	for i, x := range []struct {
		a, b api.Sheet
		mask []int
		want bool
	}{
		{sheetS(), sheetS(), []int{0, 0, 0}, true}, {sheetS(), sheetU(), []int{0, 0, 0}, false}, {sheetS(), sheetU(), []int{7, 7, 7}, true}, {sheetU(), sheetS(), []int{0, 3, 3}, true},
		{sheetS(), sheetU(), []int{0, 2, 3}, false}, {sheetS(), sheetU(), []int{7, 3, 2}, false}, {sheetS(), sheetU(), []int{0, 7, 3}, true},
		// the secrets and the gap are not in the print
		{sheetS(), sheetT(), []int{0, 0, 0}, true}, {sheetT(), sheetU(), []int{0, 3, 3}, true},
		{sheetS(), first(21), []int{0, 0, 0}, false}, {sheetS(), first(21), []int{7, 7, 7}, false}, {sheetS(), moved, []int{7, 7, 7}, false}, {moved, sheetS(), []int{7, 7, 7}, false},
		// the sums of the columns, or of the rows, are the same, the others are not
		{api.Sheet{Amounts: [][]int{{1, 2}, {3, 4}}, Secret: []int{0, 0}, Gap: 1}, api.Sheet{Amounts: [][]int{{3, 4}, {1, 2}}, Secret: []int{0, 0}, Gap: 1}, []int{3, 3}, false},
		{api.Sheet{Amounts: [][]int{{1, 2}, {3, 4}}, Secret: []int{0, 0}, Gap: 1}, api.Sheet{Amounts: [][]int{{2, 1}, {4, 3}}, Secret: []int{0, 0}, Gap: 1}, []int{3, 3}, false},
	} {
		if same, e := secrets.Same(x.a, x.b, x.mask); same != x.want || e != api.OK {
			t.Errorf("%d: Same = %v, %d", i, same, e)
		}
	}
}
