package secrets

import (
	"slices"

	"handshape/api"
)

// masked is a valid sheet with a mask.
type masked struct {
	api.Sheet
	mask []int
}

// readMask returns the first error of a sheet and its mask, or the sheet with the mask.
func readMask(s api.Sheet, mask []int) (masked, api.Errno) {
	if !validSheet(s) {
		return masked{}, api.ErrSheet
	}
	if !validSets(mask, s) {
		return masked{}, api.ErrMask
	}
	return masked{Sheet: s, mask: mask}, api.OK
}

// readCell returns the first error of a sheet, its mask, and a row and a column of it, or the sheet with the mask.
func readCell(s api.Sheet, mask []int, row, column int) (masked, api.Errno) {
	m, e := readMask(s, mask)
	if e != api.OK {
		return masked{}, e
	}
	if !m.hasCell(row, column) {
		return masked{}, api.ErrArg
	}
	return m, api.OK
}

func within(n, low, high int) bool { return low <= n && n <= high }

// allOf reports whether a slice has from least to most elements, and all of them are valid.
func allOf[T any](l []T, least, most int, valid func(T) bool) bool {
	return within(len(l), least, most) && !slices.ContainsFunc(l, func(x T) bool { return !valid(x) })
}

func validSheet(s api.Sheet) bool {
	validAmount := func(n int) bool { return within(n, 0, api.MaxSum) }
	validRow := func(l []int) bool {
		return len(l) == len(s.Amounts[0]) && allOf(l, 1, api.MaxColumns, validAmount)
	}
	return allOf(s.Amounts, 1, api.MaxLines, validRow) && validSets(s.Secret, s) && within(s.Gap, 1, api.MaxGap)
}

// validSets reports whether there is a set of columns for each row of a sheet, which has some.
func validSets(sets []int, s api.Sheet) bool {
	rows, columns := len(s.Amounts), len(s.Amounts[0])
	return allOf(sets, rows, rows, func(set int) bool { return within(set, 0, 1<<columns-1) })
}

func isIn(set, column int) bool { return set>>column&1 == 1 }

func (m masked) hasCell(row, column int) bool {
	return within(row, 0, len(m.Amounts)-1) && within(column, 0, len(m.Amounts[0])-1)
}

// isOut reports whether an amount is left out.
func (m masked) isOut(row, column int) bool { return isIn(m.mask[row], column) }

func (m masked) print() api.Print {
	p := api.Print{Rows: make([]int, len(m.Amounts)), Cols: make([]int, len(m.Amounts[0]))}
	for row, amounts := range m.Amounts {
		shown := slices.Clone(amounts)
		for column, amount := range amounts {
			if m.isOut(row, column) {
				shown[column] = -1
			}
			p.Rows[row] += amount
			p.Cols[column] += amount
			p.All += amount
		}
		p.Amounts = append(p.Amounts, shown)
	}
	return p
}

func samePrint(p, q api.Print) bool {
	sums := slices.Equal(p.Rows, q.Rows) && slices.Equal(p.Cols, q.Cols) && p.All == q.All
	return sums && slices.EqualFunc(p.Amounts, q.Amounts, slices.Equal[[]int])
}
