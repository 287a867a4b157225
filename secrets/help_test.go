package secrets_test

import (
	"math/rand/v2"
	"slices"
	"testing"

	"handshape/api"
	"handshape/secrets"
)

// sheetS is the sheet S of the chapter's examples.
func sheetS() api.Sheet {
	return api.Sheet{Amounts: [][]int{{20, 50, 10}, {8, 19, 22}, {17, 32, 12}}, Secret: []int{0, 0, 2}, Gap: 10}
}

// sheetT is the sheet T of the chapter's examples.
func sheetT() api.Sheet {
	s := sheetS()
	s.Secret, s.Gap = []int{1, 0, 0}, 30
	return s
}

// sheetU is the sheet U of the chapter's examples.
func sheetU() api.Sheet {
	s := sheetS()
	s.Amounts = [][]int{{20, 50, 10}, {16, 11, 22}, {9, 40, 12}}
	return s
}

// copied is a sheet in new memory.
func copied(s api.Sheet) api.Sheet {
	rows := s.Amounts
	s.Amounts = nil
	for _, l := range rows {
		s.Amounts = append(s.Amounts, slices.Clone(l))
	}
	s.Secret = slices.Clone(s.Secret)
	return s
}

// changed is a sheet in new memory with a change.
func changed(s api.Sheet, change func(s *api.Sheet)) api.Sheet {
	s = copied(s)
	change(&s)
	return s
}

func changedS(change func(s *api.Sheet)) api.Sheet { return changed(sheetS(), change) }

// even is a sheet without secrets whose amounts are all the same.
func even(rows, columns, amount, gap int) api.Sheet {
	s := api.Sheet{Secret: make([]int, rows), Gap: gap}
	for range rows {
		s.Amounts = append(s.Amounts, slices.Repeat([]int{amount}, columns))
	}
	return s
}

func sameTable(a, b [][]int) bool { return slices.EqualFunc(a, b, slices.Equal[[]int]) }

func isIn(set, column int) bool { return set/(1<<column)%2 == 1 }

// chance draws the same numbers in each run of the tests.
func chance() *rand.Rand { return rand.New(rand.NewPCG(7, 8)) }

// drawSheet draws a sheet of some size with amounts up to one, some of them 0, and a few secrets.
func drawSheet(r *rand.Rand, rows, columns, most, gap int) api.Sheet {
	s := even(rows, columns, 0, 1+r.IntN(gap))
	for _, l := range s.Amounts {
		for column := range l {
			if r.IntN(6) > 0 {
				l[column] = r.IntN(most + 1)
			}
		}
	}
	for range r.IntN(4) {
		s.Secret[r.IntN(rows)] |= 1 << r.IntN(columns)
	}
	return s
}

// drawMask draws a mask that leaves out some of the amounts, or most of them.
func drawMask(r *rand.Rand, s api.Sheet) []int {
	mask := make([]int, len(s.Amounts))
	kept := 2 + r.IntN(4)
	for row, l := range s.Amounts {
		for column := range l {
			if r.IntN(kept) > 0 {
				mask[row] |= 1 << column
			}
		}
	}
	return mask
}

// eachSmall calls a function for drawn sheets with so few and so low amounts that all sheets that agree can be gone through, and a mask.
func eachSmall(times, cells int, do func(r *rand.Rand, s api.Sheet, mask []int)) {
	r := chance()
	for range times {
		rows, columns := 1+r.IntN(api.MaxLines), 1+r.IntN(api.MaxColumns)
		if rows*columns > cells {
			continue
		}
		most := 1
		if rows*columns <= 9 {
			most = 12 / (rows * columns)
		}
		s := drawSheet(r, rows, columns, most, most+1)
		do(r, s, drawMask(r, s))
	}
}

// eachLarge calls a function for drawn sheets with amounts up to the greatest one, and a mask.
func eachLarge(times int, do func(r *rand.Rand, s api.Sheet, mask []int)) {
	r := chance()
	for range times {
		most := []int{10, 300, 3000, api.MaxSum}[r.IntN(4)]
		s := drawSheet(r, 1+r.IntN(api.MaxLines), 1+r.IntN(api.MaxColumns), most, min(most, api.MaxGap))
		do(r, s, drawMask(r, s))
	}
}

// eachAgreeing calls a function for the amounts of all sheets that agree, cell by cell, and column by column in a row.
func eachAgreeing(s api.Sheet, mask []int, do func(amounts [][]int)) {
	p := printOf(s, 0)
	rows, columns := p.Rows, p.Cols
	amounts := copied(s).Amounts
	var fill func(row, column int)
	fill = func(row, column int) {
		if row == len(amounts) {
			if slices.Max(columns) == 0 {
				do(amounts)
			}
			return
		}
		if column == len(amounts[row]) {
			if rows[row] == 0 {
				fill(row+1, 0)
			}
			return
		}
		low, high := s.Amounts[row][column], s.Amounts[row][column]
		if isIn(mask[row], column) {
			low, high = 0, min(rows[row], columns[column])
		}
		for n := low; n <= high; n++ {
			amounts[row][column] = n
			rows[row] -= n
			columns[column] -= n
			fill(row, column+1)
			rows[row] += n
			columns[column] += n
		}
	}
	fill(0, 0)
}

// printOf is the print of a sheet in which the same columns are left out in all rows.
func printOf(s api.Sheet, set int) api.Print {
	p := api.Print{Rows: make([]int, len(s.Amounts)), Cols: make([]int, len(s.Amounts[0]))}
	for row, l := range s.Amounts {
		shown := slices.Clone(l)
		for column, n := range l {
			p.Rows[row] += n
			p.Cols[column] += n
			p.All += n
			if isIn(set, column) {
				shown[column] = -1
			}
		}
		p.Amounts = append(p.Amounts, shown)
	}
	return p
}

// spansByAll are the spans of all amounts, row by row, by all sheets that agree.
func spansByAll(s api.Sheet, mask []int) [][]api.Span {
	var spans [][]api.Span
	for _, l := range s.Amounts {
		var row []api.Span
		for _, n := range l {
			row = append(row, api.Span{Low: n, High: n})
		}
		spans = append(spans, row)
	}
	eachAgreeing(s, mask, func(amounts [][]int) {
		for row, l := range amounts {
			for column, n := range l {
				x := &spans[row][column]
				x.Low, x.High = min(x.Low, n), max(x.High, n)
			}
		}
	})
	return spans
}

// cut is the least sum of amounts through which all must go that moves from one line to another, not by way of a cell itself, by all sets of lines; the columns are the lines from 4 on. Amounts grow without a limit.
func cut(s api.Sheet, mask []int, row, column, from, to int) int {
	const unlimited = 1 << 40
	least := unlimited
	for set := range 1 << 8 {
		if !isIn(set, from) || isIn(set, to) {
			continue
		}
		sum := 0
		for i, l := range s.Amounts {
			for j, n := range l {
				if i == row && j == column || !isIn(mask[i], j) {
					continue
				}
				if isIn(set, i) && !isIn(set, 4+j) {
					sum += n
				}
				if !isIn(set, i) && isIn(set, 4+j) {
					sum = unlimited
				}
			}
		}
		least = min(least, sum)
	}
	return least
}

// spanByCuts is the span of an amount, by sets of lines.
func spanByCuts(s api.Sheet, mask []int, row, column int) api.Span {
	n := s.Amounts[row][column]
	if !isIn(mask[row], column) {
		return api.Span{Low: n, High: n}
	}
	return api.Span{Low: max(0, n-cut(s, mask, row, column, 4+column, row)), High: n + cut(s, mask, row, column, row, 4+column)}
}

// isSafeBy reports whether a mask is safe, by spans of all amounts.
func isSafeBy(s api.Sheet, mask []int, spans [][]api.Span) bool {
	for row, l := range spans {
		for column, x := range l {
			if isIn(s.Secret[row], column) && (!isIn(mask[row], column) || x.High-x.Low < s.Gap) {
				return false
			}
		}
	}
	return true
}

// eachCell calls a function for each row and column of a sheet.
func eachCell(s api.Sheet, do func(row, column int)) {
	for row, l := range s.Amounts {
		for column := range l {
			do(row, column)
		}
	}
}

// masksOf are all masks of a sheet, in the order of the sets in their first rows, then in their second ones, and so on.
func masksOf(s api.Sheet) [][]int {
	all := [][]int{nil}
	for _, l := range s.Amounts {
		var longer [][]int
		for _, mask := range all {
			for set := range 1 << len(l) {
				longer = append(longer, append(slices.Clone(mask), set))
			}
		}
		all = longer
	}
	return all
}

// leftOut are the number and the sum of the amounts that a mask leaves out.
func leftOut(s api.Sheet, mask []int) (count, sum int) {
	eachCell(s, func(row, column int) {
		if isIn(mask[row], column) {
			count++
			sum += s.Amounts[row][column]
		}
	})
	return count, sum
}

func rangeOf(t *testing.T, s api.Sheet, mask []int, row, column int) api.Span {
	t.Helper()
	x, e := secrets.Range(s, mask, row, column)
	if e != api.OK {
		t.Fatalf("Range of %v and %v, %d, %d: error %d", s, mask, row, column, e)
	}
	return x
}

func safeOf(t *testing.T, s api.Sheet, mask []int) bool {
	t.Helper()
	safe, e := secrets.Safe(s, mask)
	if e != api.OK {
		t.Fatalf("Safe of %v and %v: error %d", s, mask, e)
	}
	return safe
}

func shownOf(t *testing.T, s api.Sheet, mask []int) api.Print {
	t.Helper()
	p, e := secrets.Show(s, mask)
	if e != api.OK {
		t.Fatalf("Show of %v and %v: error %d", s, mask, e)
	}
	return p
}

func samePrint(p, q api.Print) bool {
	return sameTable(p.Amounts, q.Amounts) && slices.Equal(p.Rows, q.Rows) && slices.Equal(p.Cols, q.Cols) && p.All == q.All
}

// agrees reports whether a sheet with other amounts agrees: whole numbers that are not below 0, with the same sums, and the same where they are not left out.
func agrees(s api.Sheet, mask []int, amounts [][]int) bool {
	if len(amounts) != len(s.Amounts) {
		return false
	}
	for row, l := range amounts {
		if len(l) != len(s.Amounts[row]) || slices.Min(l) < 0 {
			return false
		}
		for column, n := range l {
			if !isIn(mask[row], column) && n != s.Amounts[row][column] {
				return false
			}
		}
	}
	other := s
	other.Amounts = amounts
	p, q := printOf(s, 0), printOf(other, 0)
	return slices.Equal(p.Rows, q.Rows) && slices.Equal(p.Cols, q.Cols)
}

// results are all that the functions return about a sheet, a mask, a cell and an amount.
type results struct {
	errors       []api.Errno
	shown        api.Print
	span         api.Span
	safe, same   bool
	other        [][]int
	least, worth []int
}

func resultsOf(s api.Sheet, mask []int, row, column, amount int) results {
	var x results
	e := make([]api.Errno, 8)
	e[0] = secrets.Check(s)
	x.shown, e[1] = secrets.Show(s, mask)
	x.span, e[2] = secrets.Range(s, mask, row, column)
	x.safe, e[3] = secrets.Safe(s, mask)
	x.other, e[4] = secrets.Other(s, mask, row, column, amount)
	x.least, e[5] = secrets.Least(s)
	x.worth, e[6] = secrets.Worth(s)
	x.same, e[7] = secrets.Same(s, s, mask)
	x.errors = e
	return x
}

// isZero reports whether the functions with an error return nothing else.
func (x results) isZero() bool {
	p := x.shown
	zero := []bool{
		true, len(p.Amounts)+len(p.Rows)+len(p.Cols)+p.All == 0, x.span == api.Span{}, !x.safe,
		len(x.other) == 0, len(x.least) == 0, len(x.worth) == 0, !x.same,
	}
	for i, e := range x.errors {
		if e != api.OK && !zero[i] {
			return false
		}
	}
	return true
}
