package secrets

import (
	"math/bits"

	"handshape/api"
)

// isSafe reports whether the mask is safe.
func (m masked) isSafe() bool {
	// a secret that is not left out is known; of most masks this is all that must be seen
	for row, secret := range m.Secret {
		if m.mask[row]&secret != secret {
			return false
		}
	}
	for row, secret := range m.Secret {
		for column := range m.Amounts[row] {
			if isIn(secret, column) && !m.isUnsure(row, column) {
				return false
			}
		}
	}
	return true
}

// isUnsure reports whether what can be an amount is as uncertain as a secret one must remain.
func (m masked) isUnsure(row, column int) bool {
	x := m.span(row, column)
	return x.High-x.Low >= m.Gap
}

// count returns how many amounts are left out.
func (m masked) count() int {
	n := 0
	for _, set := range m.mask {
		n += bits.OnesCount(uint(set))
	}
	return n
}

// sum returns the sum of the amounts that are left out.
func (m masked) sum() int {
	n := 0
	for row, amounts := range m.Amounts {
		for column, amount := range amounts {
			if m.isOut(row, column) {
				n += amount
			}
		}
	}
	return n
}

// withMask returns a sheet with the mask of a number, in which each row has as many bits as there are columns.
func withMask(s api.Sheet, number int) masked {
	columns := len(s.Amounts[0])
	mask := make([]int, len(s.Amounts))
	for row := range mask {
		mask[row] = number >> (row * columns) & (1<<columns - 1)
	}
	return masked{Sheet: s, mask: mask}
}

// best returns the first safe mask of a sheet in some order. With more amounts left out a safe mask stays safe, so that there is one only if the mask of all amounts is.
func best(s api.Sheet, compare func(a, b masked) int) ([]int, api.Errno) {
	if !validSheet(s) {
		return nil, api.ErrSheet
	}
	masks := 1 << (len(s.Amounts) * len(s.Amounts[0]))
	first := withMask(s, masks-1)
	if !first.isSafe() {
		return nil, api.ErrNone
	}
	for number := range masks {
		m := withMask(s, number)
		if compare(m, first) < 0 && m.isSafe() {
			first = m
		}
	}
	return first.mask, api.OK
}
