package glosses_test

import (
	"testing"

	"handshape/api"
	"handshape/glosses"
	"handshape/signs"
)

// drawEntries draws a book of signs that films can have, many of which agree with the same.
func drawEntries(pick func(n int) int) []api.Entry {
	var l []api.Entry
	for id := range 1 + pick(20) {
		form := api.Form{Right: pick(3), Left: pick(3) - 1, Column: pick(3) - 1, Row: pick(2), Face: pick(2)}
		for range pick(3) {
			form.Moves = append(form.Moves, pick(8))
		}
		l = append(l, api.Entry{Id: id, Sign: pick(api.MaxReads), Form: form, Regions: 1 + pick(255), Ages: api.Span{Low: pick(40), High: 40 + pick(81)}})
	}
	return l
}

// seenOf is what somebody sees who sees a sign made, but not all of it.
func seenOf(x api.Entry, pick func(n int) int) api.Seen {
	about := func(n int) api.Span { return api.Span{Low: n - pick(2), High: n + pick(2)} }
	s := api.Seen{
		Rights: 1<<(x.Form.Right+1) | 1<<pick(33), Lefts: 1<<(x.Form.Left+1) | 1<<pick(33), Faces: 1<<x.Form.Face | 1<<pick(8),
		Columns: about(x.Form.Column), Rows: about(x.Form.Row), Ages: about(40), Regions: x.Regions,
	}
	for _, d := range x.Form.Moves {
		if pick(2) == 0 {
			s.Lost++
		} else {
			s.Moves = append(s.Moves, 1<<d|1<<pick(8))
		}
	}
	return s
}

// P0.1
func TestOneSign(t *testing.T) {
	f := api.Films{Frames: []int{3}, Signs: api.MaxReads}
	pick := chance().IntN
	for range 300 {
		book := drawEntries(pick)
		made := book[pick(len(book))]
		var l []api.Gloss
		for author := range 2 + pick(api.MaxAuthors-1) {
			found, e := signs.Find(book, seenOf(made, pick))
			if e != api.OK {
				t.Fatalf("Find: error %d", e)
			}
			set := 0
			for _, sign := range found {
				set |= 1 << sign
			}
			l = append(l, gloss(author, pick(100), 0, pick(2), 2+pick(2), set))
		}
		_, may, e := glosses.Sure(f, l, 0, 1)
		if set := readingsByFrame(t, f, l, 0)[1]; signsOf(set) != 1 || may>>made.Sign&1 != 1 || e != api.OK {
			t.Errorf("%v made of %v, %v: the reading is %d, and %d may be, %d", made, book, l, set, may, e)
		}
	}
}
