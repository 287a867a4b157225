package signs

import (
	"iter"
	"slices"

	"handshape/api"
)

// The parts that Ask can choose, in the order of their numbers.
const (
	rightHand = iota
	leftHand
	row
	column
	face
	parts
)

// handBits is how many elements a set of handshapes can have: all of them, and the unused hand.
const handBits = api.MaxShape + 2

// view is what was seen, narrowed or not.
type view struct {
	api.Seen
}

// readSeen returns the first error of a book and of what was seen, or both of them.
func readSeen(l []api.Entry, seen api.Seen) (book, view, api.Errno) {
	b, e := read(l)
	if e != api.OK {
		return nil, view{}, e
	}
	v := view{seen}
	if !v.valid() {
		return nil, view{}, api.ErrSeen
	}
	return b, v, api.OK
}

func validSpan(s api.Span) bool { return s.Low <= s.High }

func contains(s api.Span, n int) bool { return within(n, s.Low, s.High) }

func meet(a, b api.Span) bool { return a.Low <= b.High && b.Low <= a.High }

// validSet reports whether a set has some elements, all of them below size.
func validSet(set, size int) bool { return within(set, 1, 1<<size-1) }

func has(set, element int) bool { return set>>element&1 == 1 }

func (v view) valid() bool {
	validMove := func(set int) bool { return validSet(set, directions) }
	hands := validSet(v.Rights, handBits) && validSet(v.Lefts, handBits)
	spans := validSpan(v.Columns) && validSpan(v.Rows) && validSpan(v.Ages)
	moves := allOf(v.Moves, api.MaxMoves, validMove) && within(v.Lost, 0, api.MaxMoves)
	return hands && spans && moves && validSet(v.Faces, api.MaxFace+1) && within(v.Regions, 1, api.MaxRegions)
}

// agrees reports whether an entry agrees with what was seen.
func (v view) agrees(x api.Entry) bool {
	return x.Regions&v.Regions != 0 && meet(x.Ages, v.Ages) && (v.agreesAs(x.Form) || v.agreesAs(mirror(x.Form)))
}

// agreesAs reports whether a form agrees with what was seen as it is, not mirrored.
func (v view) agreesAs(f api.Form) bool {
	hands := has(v.Rights, f.Right+1) && has(v.Lefts, f.Left+1)
	place := contains(v.Columns, f.Column) && contains(v.Rows, f.Row)
	return hands && place && has(v.Faces, f.Face) && v.agreesMoves(f.Moves)
}

// agreesMoves takes each move that was seen for the first one that it can be, since a later one would leave no more to the moves after it.
func (v view) agreesMoves(moves []int) bool {
	found := 0
	for _, d := range moves {
		if found < len(v.Moves) && has(v.Moves[found], d) {
			found++
		}
	}
	return found == len(v.Moves) && len(moves)-found <= v.Lost
}

// signs returns all signs of a book that agree with what was seen, in ascending order.
func (v view) signs(b book) []int {
	var l []int
	for _, x := range b {
		if v.agrees(x) {
			l = append(l, x.Sign)
		}
	}
	slices.Sort(l)
	return slices.Compact(l)
}

// greatest returns the greatest number of signs that agree after an answer for a part.
func (v view) greatest(b book, part int) int {
	n := 0
	for w := range v.answers(part) {
		n = max(n, len(w.signs(b)))
	}
	return n
}

// answers yields what was seen after each answer for a part that a form can give. No part of a form has more values than a hand; with any other answer no sign agrees, so that the greatest number does not need it.
func (v view) answers(part int) iter.Seq[view] {
	return func(yield func(view) bool) {
		for i := range handBits {
			if w, ok := v.narrow(part, i); ok && !yield(w) {
				return
			}
		}
	}
}

// narrow leaves a part just the value with the number i, counted from the lowest one that a form can have, and reports whether the part had it.
func (v view) narrow(part, i int) (view, bool) {
	ok := false
	switch part {
	case rightHand:
		v.Rights, ok = element(v.Rights, i)
	case leftHand:
		v.Lefts, ok = element(v.Lefts, i)
	case row:
		v.Rows, ok = single(v.Rows, i)
	case column:
		v.Columns, ok = single(v.Columns, i-api.MaxColumn)
	case face:
		v.Faces, ok = element(v.Faces, i)
	}
	return v, ok
}

// element returns the set of just one element, and whether a set has it.
func element(set, i int) (int, bool) { return 1 << i, has(set, i) }

// single returns the span of just one number, and whether a span has it.
func single(s api.Span, n int) (api.Span, bool) { return api.Span{Low: n, High: n}, contains(s, n) }
