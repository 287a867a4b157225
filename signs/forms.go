package signs

import (
	"cmp"
	"slices"

	"handshape/api"
)

// directions is how many directions a move can have.
const directions = 8

func within(n, low, high int) bool { return low <= n && n <= high }

// allOf reports whether a slice has at most some number of elements, and all of them are valid.
func allOf[T any](l []T, most int, valid func(T) bool) bool {
	return len(l) <= most && !slices.ContainsFunc(l, func(x T) bool { return !valid(x) })
}

func validForm(f api.Form) bool {
	hands := within(f.Right, -1, api.MaxShape) && within(f.Left, -1, api.MaxShape) && max(f.Right, f.Left) >= 0
	place := within(f.Column, -api.MaxColumn, api.MaxColumn) && within(f.Row, 0, api.MaxRow)
	validMove := func(d int) bool { return within(d, 0, directions-1) }
	return hands && place && within(f.Face, 0, api.MaxFace) && allOf(f.Moves, api.MaxMoves, validMove)
}

// mirror returns the mirror form of a form, in new memory.
func mirror(f api.Form) api.Form {
	f.Right, f.Left, f.Column = f.Left, f.Right, -f.Column
	var moves []int
	for _, d := range f.Moves {
		moves = append(moves, (directions-d)%directions)
	}
	f.Moves = moves
	return f
}

// compareForms compares two forms as they are, not their canons.
func compareForms(a, b api.Form) int {
	return cmp.Or(
		cmp.Compare(a.Row, b.Row),
		cmp.Compare(a.Column, b.Column),
		cmp.Compare(a.Right, b.Right),
		cmp.Compare(a.Left, b.Left),
		cmp.Compare(a.Face, b.Face),
		slices.Compare(a.Moves, b.Moves),
	)
}

// canon returns the canon of a form, in new memory.
func canon(f api.Form) api.Form {
	m := mirror(f)
	if compareForms(m, f) < 0 {
		return m
	}
	f.Moves = append([]int(nil), f.Moves...)
	return f
}
