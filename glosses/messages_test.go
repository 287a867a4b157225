package glosses_test

import (
	"math"
	"slices"
	"testing"

	"handshape/api"
	"handshape/glosses"
)

// invalidFilms has films for each bound, just beyond it.
func invalidFilms() []api.Films {
	return []api.Films{
		{Signs: 5}, {Frames: []int{}, Signs: 5}, {Frames: []int{1, 1, 1, 1, 1}, Signs: 5},
		{Frames: []int{10, 0}, Signs: 5}, {Frames: []int{-1, 10}, Signs: 5}, {Frames: []int{201}, Signs: 5},
		{Frames: []int{10, 4}}, {Frames: []int{10, 4}, Signs: 11}, {Frames: []int{10, 4}, Signs: -1},
		{Frames: []int{10, math.MaxInt}, Signs: 5}, {Frames: []int{10, 4}, Signs: math.MaxInt}, {Frames: []int{10, 4}, Signs: math.MinInt},
	}
}

// invalidMessages has messages about the films F for each bound, just beyond it.
func invalidMessages() [][]api.Gloss {
	l := [][]api.Gloss{slices.Repeat(messagesM()[:1], 41)}
	for _, x := range []api.Gloss{
		gloss(-1, 9, 0, 0, 1, 1), gloss(8, 9, 0, 0, 1, 1), gloss(7, -1, 0, 0, 1, 1), gloss(7, 10000, 0, 0, 1, 1),
		gloss(7, 9, -1, 0, 1, 1), gloss(7, 9, 2, 0, 1, 1), gloss(7, 9, 0, -1, 1, 1), gloss(7, 9, 0, 1, 1, 1), gloss(7, 9, 0, 2, 1, 0),
		gloss(7, 9, 0, 0, 11, 1), gloss(7, 9, 1, 0, 5, 1), gloss(7, 9, 0, 0, 1, -1), gloss(7, 9, 0, 0, 1, 32),
		gloss(7, 9, 0, math.MinInt, math.MaxInt, 1), gloss(7, 9, math.MaxInt, 0, 1, 1), gloss(math.MinInt, math.MaxInt, 0, 0, 1, math.MinInt),
	} {
		l = append(l, append(messagesM(), x), append([]api.Gloss{x}, messagesM()...))
	}
	return l
}

// clashes has messages for each way in which two of the same author and stamp are not equal.
func clashes() [][]api.Gloss {
	var l [][]api.Gloss
	for _, x := range []api.Gloss{
		gloss(1, 7, 0, 0, 4, 16), gloss(1, 7, 1, 1, 4, 16), gloss(1, 7, 1, 0, 3, 16), gloss(1, 7, 1, 0, 4, 17), gloss(1, 7, 1, 0, 4, 0),
	} {
		l = append(l, append(messagesM(), x), append([]api.Gloss{x, x}, messagesM()...))
	}
	return l
}

// P2.1
func TestCheck(t *testing.T) {
	small := api.Films{Frames: []int{1}, Signs: 1}
	large := api.Films{Frames: []int{1, 200, 200, 200}, Signs: 10}
	for i, c := range []struct {
		f api.Films
		l []api.Gloss
	}{
		{filmsF(), nil}, {filmsF(), messagesM()}, {filmsF(), messagesL()}, {filmsF(), append(messagesM(), messagesM()...)},
		{filmsF(), slices.Repeat(messagesM(), 8)}, {small, nil}, {large, nil},
		{small, []api.Gloss{gloss(0, 0, 0, 0, 1, 0), gloss(7, 9999, 0, 0, 1, 1)}},
		{large, []api.Gloss{gloss(0, 0, 3, 0, 200, 1023), gloss(7, 9999, 3, 199, 200, 512), gloss(7, 0, 0, 0, 1, 0)}},
		{filmsF(), []api.Gloss{gloss(0, 1, 0, 0, 1, 1), gloss(1, 1, 0, 0, 1, 2), gloss(0, 2, 0, 0, 1, 1)}},
	} {
		if e := glosses.Check(c.f, c.l); e != api.OK {
			t.Errorf("%d: Check = %d", i, e)
		}
	}
	for _, l := range invalidMessages() {
		if e := glosses.Check(filmsF(), l); e != api.ErrGloss {
			t.Errorf("Check of %v = %d", l, e)
		}
		for _, f := range invalidFilms() {
			if e := glosses.Check(f, l); e != api.ErrFilms {
				t.Errorf("Check of %v and %v = %d", f, l, e)
			}
		}
	}
	for _, l := range clashes() {
		if e := glosses.Check(filmsF(), l); e != api.ErrClash {
			t.Errorf("Check of %v = %d", l, e)
		}
		l = append(l, gloss(3, 3, 0, 0, 0, 1))
		if e := glosses.Check(filmsF(), l); e != api.ErrGloss {
			t.Errorf("Check of %v = %d", l, e)
		}
	}
}

// P2.2
func TestMerge(t *testing.T) {
	m := messagesM()
	sorted := []api.Gloss{m[0], m[3], m[1], m[4], m[2]}
	for i, c := range []struct{ a, b, want []api.Gloss }{
		{nil, nil, nil}, {m, nil, sorted}, {nil, m, sorted}, {m, m, sorted}, {m[:2], m[1:], sorted},
		{append(messagesM(), m...), m[3:], sorted},
		{m, []api.Gloss{gloss(1, 0, 0, 0, 1, 0)}, []api.Gloss{m[0], m[3], gloss(1, 0, 0, 0, 1, 0), m[1], m[4], m[2]}},
	} {
		if got, e := glosses.Merge(filmsF(), c.a, c.b); e != api.OK || !slices.Equal(got, c.want) {
			t.Errorf("%d: Merge = %v, %d, want %v", i, got, e, c.want)
		}
	}
}

// stamped are messages of one author, with the stamps from first on.
func stamped(first, n int) []api.Gloss {
	var l []api.Gloss
	for i := range n {
		l = append(l, gloss(3, first+i, 0, 2, 5, 7))
	}
	return l
}

// P2.2: the errors of a, of b, of too many together, of a clash together.
func TestMergeErrors(t *testing.T) {
	other := func(l []api.Gloss) []api.Gloss {
		l[0].To++
		return l
	}
	bad, clash := invalidMessages()[1], clashes()[0]
	for i, c := range []struct {
		a, b []api.Gloss
		want api.Errno
	}{
		{stamped(0, 40), stamped(0, 40), api.OK},
		{stamped(0, 20), stamped(20, 20), api.OK},
		{stamped(0, 20), stamped(20, 21), api.ErrMany},
		{stamped(0, 40), stamped(40, 1), api.ErrMany},
		{stamped(0, 40), other(stamped(39, 2)), api.ErrMany},
		{stamped(0, 40), other(stamped(39, 1)), api.ErrMany},
		{other(stamped(39, 1)), stamped(0, 40), api.ErrMany},
		{stamped(0, 39), other(stamped(38, 1)), api.ErrClash},
		{stamped(0, 39), slices.Repeat(other(stamped(38, 1)), 40), api.ErrClash},
		{slices.Repeat(other(stamped(38, 1)), 40), stamped(0, 39), api.ErrClash},
		{messagesM(), other(messagesM()), api.ErrClash},
		{bad, clash, api.ErrGloss}, {clash, bad, api.ErrClash}, {messagesM(), bad, api.ErrGloss}, {messagesM(), clash, api.ErrClash},
		{clash, nil, api.ErrClash}, {nil, clash, api.ErrClash},
		{stamped(0, 41), clash, api.ErrGloss}, {clash, stamped(0, 41), api.ErrClash},
	} {
		if got, e := glosses.Merge(filmsF(), c.a, c.b); e != c.want || e != api.OK && len(got) > 0 {
			t.Errorf("%d: Merge = %v, %d, want %d", i, got, e, c.want)
		}
		for _, f := range invalidFilms() {
			if got, e := glosses.Merge(f, c.a, c.b); e != api.ErrFilms || len(got) > 0 {
				t.Errorf("%d: Merge about %v = %v, %d", i, f, got, e)
			}
		}
	}
}

// P2.3
func TestHeld(t *testing.T) {
	m, a := messagesM(), gloss(4, 10, 0, 2, 5, 1)
	for i, c := range []struct{ l, want []api.Gloss }{
		{nil, nil},
		{m, []api.Gloss{m[3], m[1], m[4], m[2]}},
		{messagesL(), []api.Gloss{m[3], m[1], m[4]}},
		{[]api.Gloss{a, a}, []api.Gloss{a}},
		// frames in common, or just none
		{[]api.Gloss{a, gloss(4, 11, 0, 5, 6, 1)}, []api.Gloss{a, gloss(4, 11, 0, 5, 6, 1)}},
		{[]api.Gloss{a, gloss(4, 11, 0, 0, 2, 1)}, []api.Gloss{a, gloss(4, 11, 0, 0, 2, 1)}},
		{[]api.Gloss{a, gloss(4, 11, 0, 4, 6, 1)}, []api.Gloss{gloss(4, 11, 0, 4, 6, 1)}},
		{[]api.Gloss{a, gloss(4, 11, 0, 0, 3, 1)}, []api.Gloss{gloss(4, 11, 0, 0, 3, 1)}},
		{[]api.Gloss{a, gloss(4, 9, 0, 0, 10, 1)}, []api.Gloss{a}},
		// an empty set does not hold, but takes back
		{[]api.Gloss{a, gloss(4, 11, 0, 3, 4, 0)}, nil},
		{[]api.Gloss{a, gloss(4, 9, 0, 3, 4, 0)}, []api.Gloss{a}},
		{[]api.Gloss{gloss(4, 9, 0, 3, 4, 0)}, nil},
		// what replaces need not hold itself
		{[]api.Gloss{a, gloss(4, 11, 0, 4, 8, 2), gloss(4, 12, 0, 7, 9, 4)}, []api.Gloss{gloss(4, 12, 0, 7, 9, 4)}},
		// others, and other films
		{[]api.Gloss{a, gloss(5, 11, 0, 2, 5, 1)}, []api.Gloss{a, gloss(5, 11, 0, 2, 5, 1)}},
		{[]api.Gloss{gloss(4, 11, 1, 2, 4, 1), a}, []api.Gloss{a, gloss(4, 11, 1, 2, 4, 1)}},
	} {
		if got, e := glosses.Held(filmsF(), c.l); e != api.OK || !slices.Equal(got, c.want) {
			t.Errorf("%d: Held = %v, %d, want %v", i, got, e, c.want)
		}
	}
	r := chance()
	for range 300 {
		f := drawFilms(r)
		l := drawMessages(r, f, 40)
		if got, e := glosses.Held(f, l); e != api.OK || !slices.Equal(got, wantHeld(l)) {
			t.Errorf("Held of %v = %v, %d, want %v", l, got, e, wantHeld(l))
		}
	}
}

// results are all that the functions return about some messages.
type results struct {
	check, merge, held, readings, sure, why, agree api.Errno
	merged, holding, reasons                       []api.Gloss
	read                                           []api.Reading
	surely, may, both, same                        int
}

func resultsOf(f api.Films, l []api.Gloss, film, frame, a, b int) results {
	var x results
	x.check = glosses.Check(f, l)
	x.merged, x.merge = glosses.Merge(f, l, nil)
	x.holding, x.held = glosses.Held(f, l)
	x.read, x.readings = glosses.Readings(f, l, film)
	x.surely, x.may, x.sure = glosses.Sure(f, l, film, frame)
	x.reasons, x.why = glosses.Why(f, l, film, frame)
	x.both, x.same, x.agree = glosses.Agree(f, l, a, b)
	return x
}

func (x results) errors() []api.Errno {
	return []api.Errno{x.check, x.merge, x.held, x.readings, x.sure, x.why, x.agree}
}

func (x results) equal(y results) bool {
	lists := slices.Equal(x.merged, y.merged) && slices.Equal(x.holding, y.holding) && slices.Equal(x.reasons, y.reasons) && slices.Equal(x.read, y.read)
	return lists && slices.Equal(x.errors(), y.errors()) && x.surely == y.surely && x.may == y.may && x.both == y.both && x.same == y.same
}

// P1, R2: the errors of films and messages come before those of other arguments, with zero values.
func TestErrors(t *testing.T) {
	all := func(e api.Errno) results { return results{e, e, e, e, e, e, e, nil, nil, nil, nil, 0, 0, 0, 0} }
	for _, args := range [][4]int{{0, 0, 0, 1}, {-1, 99, 3, 3}} {
		for _, l := range append(invalidMessages(), append(clashes(), messagesM())...) {
			for _, f := range invalidFilms() {
				if got := resultsOf(f, l, args[0], args[1], args[2], args[3]); !got.equal(all(api.ErrFilms)) {
					t.Errorf("about %v and %v: %v", f, l, got)
				}
			}
		}
		for _, l := range invalidMessages() {
			if got := resultsOf(filmsF(), l, args[0], args[1], args[2], args[3]); !got.equal(all(api.ErrGloss)) {
				t.Errorf("about %v: %v", l, got)
			}
		}
		for _, l := range clashes() {
			if got := resultsOf(filmsF(), l, args[0], args[1], args[2], args[3]); !got.equal(all(api.ErrClash)) {
				t.Errorf("about %v: %v", l, got)
			}
		}
	}
}

// P2.8
func TestInAnyOrder(t *testing.T) {
	r := chance()
	for range 150 {
		f := drawFilms(r)
		l := drawMessages(r, f, 30)
		again := shuffled(r, l)
		film := r.IntN(len(f.Frames))
		frame, a := r.IntN(f.Frames[film]), r.IntN(api.MaxAuthors)
		b := (a + 1 + r.IntN(api.MaxAuthors-1)) % api.MaxAuthors
		want := resultsOf(f, l, film, frame, a, b)
		if got := resultsOf(f, again, film, frame, a, b); want.check != api.OK || !got.equal(want) {
			t.Errorf("%v and %v: %v, otherwise %v: %v", f, l, want, again, got)
		}
		cut := r.IntN(len(again) + 1)
		for _, parts := range [][2][]api.Gloss{{again[:cut], again[cut:]}, {again[cut:], again[:cut]}, {l, again}, {again, l}} {
			if got, e := glosses.Merge(f, parts[0], parts[1]); e != api.OK || !slices.Equal(got, ordered(l)) {
				t.Errorf("Merge of %v and %v = %v, %d, want %v", parts[0], parts[1], got, e, ordered(l))
			}
		}
	}
}

// P1: extreme numbers and long slices lead to an error or to a result, never to a panic.
func TestAnyArguments(t *testing.T) {
	r := chance()
	number := func() int {
		return []int{math.MinInt, math.MinInt + 1, -1, 0, 0, 1, 1, 2, 3, 7, 8, 10, 63, 64, 200, 9999, 1 << 40, math.MaxInt - 1, math.MaxInt}[r.IntN(19)]
	}
	for range 3000 {
		f := api.Films{Signs: number()}
		for range r.IntN(6) {
			f.Frames = append(f.Frames, number())
		}
		x := gloss(number(), number(), number(), number(), number(), number())
		for _, l := range [][]api.Gloss{nil, {x}, append(messagesM(), x), slices.Repeat([]api.Gloss{x}, 50)} {
			resultsOf(f, l, number(), number(), number(), number())
			resultsOf(filmsF(), l, number(), number(), number(), number())
			glosses.Merge(f, messagesM(), l)
			glosses.Merge(filmsF(), messagesM(), l)
		}
	}
}

// P1: the largest films with the most glosses in each frame.
func TestLargest(t *testing.T) {
	f := api.Films{Frames: []int{200, 200, 200, 200}, Signs: 10}
	var l []api.Gloss
	for i := range 40 {
		l = append(l, gloss(i%8, i, i%4, 0, 200, 1<<(i%10)|1<<((i+i/10)%10)))
	}
	if got := resultsOf(f, l, 3, 199, 0, 7); slices.ContainsFunc(got.errors(), func(e api.Errno) bool { return e != api.OK }) || len(got.merged) != 40 {
		t.Errorf("%v", got)
	}
}

// The arguments stay as they are (R4).
func TestArgumentsStay(t *testing.T) {
	r := chance()
	for range 100 {
		f := drawFilms(r)
		l := drawMessages(r, f, 30)
		frames, before := slices.Clone(f.Frames), slices.Clone(l)
		x := resultsOf(f, l, 0, 0, 0, 1)
		for _, list := range [][]api.Gloss{x.merged, x.holding, x.reasons} {
			for i := range list {
				list[i].Author = 99
			}
		}
		if !slices.Equal(f.Frames, frames) || !slices.Equal(l, before) {
			t.Errorf("arguments are changed: %v to %v, %v to %v", frames, f.Frames, before, l)
		}
	}
}
