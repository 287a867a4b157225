package signs_test

import (
	"math/rand/v2"
	"slices"
	"testing"

	"handshape/api"
	"handshape/signs"
)

func span(low, high int) api.Span { return api.Span{Low: low, High: high} }

var formF = api.Form{Right: 3, Left: -1, Column: -1, Row: 2, Moves: []int{1, 2}}

var formG = api.Form{Right: 5, Left: 5, Row: 2, Moves: []int{0}, Face: 4}

// mirrorF is the mirror form of formF.
var mirrorF = api.Form{Right: -1, Left: 3, Column: 1, Row: 2, Moves: []int{7, 6}}

// bookB is the book B of the chapter's examples.
func bookB() []api.Entry {
	return []api.Entry{
		{Id: 1, Sign: 10, Form: copied(formF), Regions: 3, Ages: span(0, 60)},
		{Id: 2, Sign: 20, Form: copied(mirrorF), Regions: 6, Ages: span(40, 120)},
		{Id: 3, Sign: 30, Form: copied(formG), Regions: 7, Ages: span(0, 120)},
		{Id: 4, Sign: 10, Form: api.Form{Right: 4, Left: -1, Row: 3, Moves: []int{2, 2, 6}}, Regions: 4, Ages: span(0, 120)},
	}
}

const allHands = 1<<33 - 1

// seenS is what was seen in the chapter's examples.
func seenS() api.Seen {
	return api.Seen{Rights: allHands, Lefts: allHands, Columns: span(-3, 3), Rows: span(2, 3), Faces: 1, Moves: []int{4}, Lost: 2, Regions: 255, Ages: span(0, 120)}
}

// anything is what was seen by somebody who saw nothing.
func anything() api.Seen {
	return api.Seen{Rights: allHands, Lefts: allHands, Columns: span(-3, 3), Rows: span(0, 5), Faces: 255, Lost: 6, Regions: 255, Ages: span(0, 120)}
}

func copied(f api.Form) api.Form {
	f.Moves = slices.Clone(f.Moves)
	return f
}

func sameForm(a, b api.Form) bool { return slices.Equal(numbers(a), numbers(b)) }

// numbers are those of a form in the order in which they decide.
func numbers(f api.Form) []int {
	return append([]int{f.Row, f.Column, f.Right, f.Left, f.Face}, f.Moves...)
}

func mirrored(f api.Form) api.Form {
	moves := []int{}
	for _, d := range f.Moves {
		moves = append(moves, []int{0, 7, 6, 5, 4, 3, 2, 1}[d])
	}
	return api.Form{Right: f.Left, Left: f.Right, Column: -f.Column, Row: f.Row, Face: f.Face, Moves: moves}
}

func canonOf(f api.Form) api.Form {
	m := mirrored(f)
	if slices.Compare(numbers(f), numbers(m)) <= 0 {
		return f
	}
	return m
}

func sameEntry(a, b api.Entry) bool {
	return a.Id == b.Id && a.Sign == b.Sign && a.Regions == b.Regions && a.Ages == b.Ages && sameForm(a.Form, b.Form)
}

func sameSeen(a, b api.Seen) bool {
	numbers := func(s api.Seen) []int {
		l := []int{s.Rights, s.Lefts, s.Faces, s.Regions, s.Lost, s.Columns.Low, s.Columns.High, s.Rows.Low, s.Rows.High, s.Ages.Low, s.Ages.High}
		return append(l, s.Moves...)
	}
	return slices.Equal(numbers(a), numbers(b))
}

func copiedBook(l []api.Entry) []api.Entry {
	l = slices.Clone(l)
	for i := range l {
		l[i].Form = copied(l[i].Form)
	}
	return l
}

// chance draws the same numbers in each run of the tests.
func chance() *rand.Rand { return rand.New(rand.NewPCG(1, 2)) }

// drawForm draws forms of few values, so that canons are often equal.
func drawForm(r *rand.Rand) api.Form {
	f := api.Form{Right: r.IntN(3) - 1, Left: r.IntN(3) - 1, Column: r.IntN(3) - 1, Row: r.IntN(2), Face: r.IntN(2)}
	if f.Right < 0 && f.Left < 0 {
		f.Right = r.IntN(2)
	}
	for range r.IntN(4) {
		f.Moves = append(f.Moves, []int{0, 2, 6}[r.IntN(3)])
	}
	return f
}

func drawSpan(r *rand.Rand, low, high int) api.Span {
	a, b := low+r.IntN(high-low+1), low+r.IntN(high-low+1)
	return span(min(a, b), max(a, b))
}

// drawBook draws a book of different Ids.
func drawBook(r *rand.Rand, most int) []api.Entry {
	var l []api.Entry
	for _, id := range r.Perm(100)[:r.IntN(most+1)] {
		l = append(l, api.Entry{Id: id, Sign: r.IntN(6), Form: drawForm(r), Regions: 1 + r.IntN(7), Ages: drawSpan(r, 0, 20)})
	}
	return l
}

func drawSeen(r *rand.Rand) api.Seen {
	s := api.Seen{Rights: 1 + r.IntN(7), Lefts: 1 + r.IntN(7), Faces: 1 + r.IntN(3), Regions: 1 + r.IntN(7), Lost: r.IntN(4), Columns: drawSpan(r, -2, 2), Rows: drawSpan(r, -1, 2), Ages: drawSpan(r, -5, 25)}
	for range r.IntN(3) {
		s.Moves = append(s.Moves, 1+r.IntN(255))
	}
	return s
}

// reentered is the same book in another order, with some entries twice, and some with the mirror forms.
func reentered(r *rand.Rand, l []api.Entry) []api.Entry {
	l = copiedBook(l)
	for _, x := range l {
		if len(l) < api.MaxEntries && r.IntN(2) == 0 {
			l = append(l, x)
		}
	}
	for i := range l {
		if r.IntN(2) == 0 {
			l[i].Form = mirrored(l[i].Form)
		}
	}
	r.Shuffle(len(l), func(i, j int) { l[i], l[j] = l[j], l[i] })
	return l
}

func bit(set, i int) bool { return set&(1<<i) != 0 }

// formShows tries each choice of lost moves.
func formShows(f api.Form, s api.Seen) bool {
	if !bit(s.Rights, f.Right+1) || !bit(s.Lefts, f.Left+1) || !bit(s.Faces, f.Face) || f.Column < s.Columns.Low || f.Column > s.Columns.High || f.Row < s.Rows.Low || f.Row > s.Rows.High {
		return false
	}
	for lost := range 1 << len(f.Moves) {
		var left []int
		for i, d := range f.Moves {
			if !bit(lost, i) {
				left = append(left, d)
			}
		}
		if len(f.Moves)-len(left) > s.Lost || len(left) != len(s.Moves) {
			continue
		}
		fits := true
		for i, d := range left {
			fits = fits && bit(s.Moves[i], d)
		}
		if fits {
			return true
		}
	}
	return false
}

func entryShows(x api.Entry, s api.Seen) bool {
	common := false
	for age := x.Ages.Low; age <= x.Ages.High; age++ {
		common = common || s.Ages.Low <= age && age <= s.Ages.High
	}
	return common && x.Regions&s.Regions != 0 && (formShows(x.Form, s) || formShows(mirrored(x.Form), s))
}

// signsShown goes through all signs, and through all entries of each.
func signsShown(l []api.Entry, s api.Seen) []int {
	var found []int
	for sign := range api.MaxSign + 1 {
		if slices.ContainsFunc(l, func(x api.Entry) bool { return x.Sign == sign && entryShows(x, s) }) {
			found = append(found, sign)
		}
	}
	return found
}

// answered returns what was seen after each answer for a part.
func answered(s api.Seen, part int) []api.Seen {
	var l []api.Seen
	add := func(t api.Seen) { l = append(l, t) }
	for i := range 33 {
		t := s
		switch {
		case part == 0 && bit(s.Rights, i):
			t.Rights = 1 << i
			add(t)
		case part == 1 && bit(s.Lefts, i):
			t.Lefts = 1 << i
			add(t)
		case part == 4 && bit(s.Faces, i):
			t.Faces = 1 << i
			add(t)
		}
	}
	for n := s.Rows.Low; part == 2 && n <= s.Rows.High; n++ {
		t := s
		t.Rows = span(n, n)
		add(t)
	}
	for n := s.Columns.Low; part == 3 && n <= s.Columns.High; n++ {
		t := s
		t.Columns = span(n, n)
		add(t)
	}
	return l
}

// worst is the greatest number of signs after an answer for a part.
func worst(l []api.Entry, s api.Seen, part int) int {
	n := 0
	for _, t := range answered(s, part) {
		n = max(n, len(signsShown(l, t)))
	}
	return n
}

// find fails the test if Find returns an error.
func find(t *testing.T, l []api.Entry, s api.Seen) []int {
	t.Helper()
	found, e := signs.Find(l, s)
	if e != api.OK {
		t.Fatalf("Find of %v and %v: error %d", l, s, e)
	}
	return found
}
