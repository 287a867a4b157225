package glosses_test

import (
	"math"
	"slices"
	"testing"

	"handshape/api"
	"handshape/glosses"
)

// P2.4
func TestReadings(t *testing.T) {
	reading := func(from, to, signs int) api.Reading { return api.Reading{From: from, To: to, Signs: signs} }
	for i, c := range []struct {
		l    []api.Gloss
		film int
		want []api.Reading
	}{
		{nil, 0, nil},
		{messagesM(), 0, []api.Reading{reading(2, 5, 4), reading(5, 7, 5), reading(7, 8, 4), reading(8, 10, 2)}},
		{messagesL(), 0, []api.Reading{reading(2, 5, 4), reading(5, 7, 5), reading(7, 8, 4)}},
		{messagesL(), 1, []api.Reading{reading(0, 4, 16)}},
		// of several sets the lowest one
		{messagesIn(30), 0, []api.Reading{reading(0, 1, 2)}},
		{messagesIn(6, 5, 3), 0, []api.Reading{reading(0, 1, 3), reading(1, 3, 1)}},
		// adjacent frames are one reading, though other glosses lead to it; frames with none between do not join
		{[]api.Gloss{gloss(0, 0, 0, 0, 3, 6), gloss(1, 0, 0, 3, 6, 2), gloss(2, 0, 0, 5, 8, 10)}, 0, []api.Reading{reading(0, 8, 2)}},
		{[]api.Gloss{gloss(0, 0, 0, 0, 3, 6), gloss(1, 0, 0, 4, 6, 2)}, 0, []api.Reading{reading(0, 3, 2), reading(4, 6, 2)}},
		// the later gloss of an author
		{[]api.Gloss{gloss(0, 0, 0, 0, 9, 6), gloss(0, 1, 0, 8, 10, 1)}, 0, []api.Reading{reading(8, 10, 1)}},
	} {
		if got, e := glosses.Readings(filmsF(), c.l, c.film); e != api.OK || !slices.Equal(got, c.want) {
			t.Errorf("%d: Readings = %v, %d, want %v", i, got, e, c.want)
		}
	}
	for _, film := range []int{-1, 2, math.MinInt, math.MaxInt} {
		if got, e := glosses.Readings(filmsF(), messagesM(), film); e != api.ErrArg || len(got) > 0 {
			t.Errorf("Readings of the film %d = %v, %d", film, got, e)
		}
	}
}

// P2.5
func TestSure(t *testing.T) {
	for i, c := range []struct {
		l                      []api.Gloss
		film, frame, sure, may int
	}{
		{messagesM(), 0, 5, 5, 5}, {messagesM(), 0, 8, 0, 6}, {messagesM(), 0, 0, 0, 0}, {messagesM(), 1, 3, 16, 16},
		{messagesM(), 0, 9, 0, 6}, {messagesL(), 0, 9, 0, 0}, {nil, 1, 0, 0, 0},
		{messagesIn(6, 5, 3), 0, 0, 0, 7}, {messagesIn(6, 6), 0, 0, 0, 6}, {messagesIn(6, 3), 0, 0, 2, 2},
		{messagesIn(6, 16), 0, 0, 16, 22}, {messagesIn(6, 24, 10, 1), 0, 0, 1, 31}, {messagesIn(6, 24, 10, 1, 2), 0, 0, 3, 27},
	} {
		if sure, may, e := glosses.Sure(filmsF(), c.l, c.film, c.frame); sure != c.sure || may != c.may || e != api.OK {
			t.Errorf("%d: Sure = %d, %d, %d, want %d, %d", i, sure, may, e, c.sure, c.may)
		}
	}
	for _, at := range framesBeyond() {
		if sure, may, e := glosses.Sure(filmsF(), messagesM(), at[0], at[1]); sure != 0 || may != 0 || e != api.ErrArg {
			t.Errorf("Sure at %v = %d, %d, %d", at, sure, may, e)
		}
	}
}

// framesBeyond has films and frames that the films F do not have.
func framesBeyond() [][2]int {
	return [][2]int{{-1, 0}, {2, 0}, {0, -1}, {0, 10}, {1, 4}, {1, -1}, {math.MinInt, 0}, {math.MaxInt, 0}, {0, math.MinInt}, {0, math.MaxInt}}
}

// P2.6
func TestWhy(t *testing.T) {
	m := messagesM()
	at := func(l []api.Gloss, positions ...int) []api.Gloss {
		var chosen []api.Gloss
		for _, i := range positions {
			chosen = append(chosen, l[i])
		}
		return chosen
	}
	pairs := messagesIn(6, 5, 3)
	mixed := messagesIn(3, 6, 5, 8, 16)
	twice := messagesIn(7, 24, 3, 4, 11)
	for i, c := range []struct {
		l           []api.Gloss
		film, frame int
		want        []api.Gloss
	}{
		{m, 0, 5, at(m, 3, 1)}, {m, 0, 8, at(m, 2)}, {m, 0, 0, nil}, {m, 1, 0, at(m, 4)}, {messagesL(), 0, 8, nil}, {nil, 0, 0, nil},
		// each two of them agree with one sign, so that all three are needed
		{pairs, 0, 0, pairs},
		{mixed, 0, 0, mixed},
		{messagesIn(6, 5, 3, 8), 0, 0, messagesIn(6, 5, 3, 8)},
		// but not with another one that is disjoint from one of them
		{messagesIn(6, 5, 3, 4), 0, 0, at(messagesIn(6, 5, 3, 4), 2, 3)},
		// of several choices the first one
		{twice, 0, 0, at(twice, 1, 2, 3)},
		{messagesIn(7, 24, 7, 24), 0, 0, messagesIn(7, 24)},
		{[]api.Gloss{gloss(5, 2, 0, 0, 4, 1), gloss(3, 9, 0, 0, 5, 3), gloss(4, 1, 0, 0, 3, 5)}, 0, 2, []api.Gloss{gloss(3, 9, 0, 0, 5, 3)}},
	} {
		if got, e := glosses.Why(filmsF(), c.l, c.film, c.frame); e != api.OK || !slices.Equal(got, c.want) {
			t.Errorf("%d: Why = %v, %d, want %v", i, got, e, c.want)
		}
	}
	for _, at := range framesBeyond() {
		if got, e := glosses.Why(filmsF(), m, at[0], at[1]); e != api.ErrArg || len(got) > 0 {
			t.Errorf("Why at %v = %v, %d", at, got, e)
		}
	}
}

// wantProof goes through all choices of n glosses from the first ones on, for n from 0.
func wantProof(signs int, l []api.Gloss) []api.Gloss {
	size := signsOf(smallest(signs, l)[0])
	for n := range len(l) + 1 {
		if chosen, ok := firstProof(signs, size, n, nil, l); ok {
			return chosen
		}
	}
	return nil
}

// firstProof adds n of the other glosses to those chosen.
func firstProof(signs, size, n int, chosen, others []api.Gloss) ([]api.Gloss, bool) {
	if n == 0 {
		return chosen, signsOf(smallest(signs, chosen)[0]) == size
	}
	for i, x := range others {
		if found, ok := firstProof(signs, size, n-1, append(slices.Clone(chosen), x), others[i+1:]); ok {
			return found, true
		}
	}
	return nil, false
}

// drawFrame draws glosses of many authors in the frame 0, so that many are needed for a proof.
func drawFrame(signs int, pick func(n int) int) []api.Gloss {
	var sets []int
	for range 8 {
		sets = append(sets, 1<<pick(signs)|1<<pick(signs)|1<<pick(signs)&(pick(2)*1023))
	}
	return messagesIn(sets...)
}

// P2.4, P2.5, P2.6, P2.9, P2.10, P2.11: each frame of drawn films.
func TestFrames(t *testing.T) {
	r := chance()
	sizes, proofs := map[int]int{}, map[int]int{}
	check := func(f api.Films, l []api.Gloss) {
		for film := range f.Frames {
			sets := readingsByFrame(t, f, l, film)
			for frame, set := range sets {
				in := inFrame(l, film, frame)
				proof := checkFrame(t, f, l, in, film, frame, set)
				sizes[signsOf(set)]++
				proofs[len(proof)]++
			}
		}
	}
	for range 150 {
		f := drawFilms(r)
		check(f, drawMessages(r, f, 40))
		check(api.Films{Frames: []int{3}, Signs: 7}, drawFrame(7, r.IntN))
	}
	for n := range 5 {
		if sizes[n] == 0 || proofs[n] == 0 {
			t.Errorf("the drawn films never have %d signs or glosses: %v, %v", n, sizes, proofs)
		}
	}
}

// checkFrame checks a frame in which some glosses hold, whose reading is set, and returns its proof.
func checkFrame(t *testing.T, f api.Films, l, in []api.Gloss, film, frame, set int) []api.Gloss {
	t.Helper()
	all := smallest(f.Signs, in)
	if set != all[0] || !heard(set, in) {
		t.Errorf("%v and %v: the reading of %d, %d is %d, want %d", f, l, film, frame, set, all[0])
	}
	surely, mayBe := all[0], 0
	for _, x := range all {
		surely &= x
		mayBe |= x
	}
	sure, may, e := glosses.Sure(f, l, film, frame)
	if sure != surely || may != mayBe || e != api.OK || sure&^set != 0 || set&^may != 0 {
		t.Errorf("%v and %v: Sure of %d, %d = %d, %d, %d, want %d, %d", f, l, film, frame, sure, may, e, surely, mayBe)
	}
	for _, x := range in {
		if x.Signs&may == 0 {
			t.Errorf("%v and %v: in %d, %d %v has no sign that may be", f, l, film, frame, x)
		}
	}
	proof, e := glosses.Why(f, l, film, frame)
	if e != api.OK || !slices.Equal(proof, wantProof(f.Signs, in)) {
		t.Errorf("%v and %v: Why of %d, %d = %v, %d, want %v", f, l, film, frame, proof, e, wantProof(f.Signs, in))
	}
	for fewer := range 1 << f.Signs {
		if signsOf(fewer) < signsOf(set) && (heard(fewer, in) || heard(fewer, proof)) {
			t.Errorf("%v and %v: in %d, %d %d agrees with all of %v", f, l, film, frame, fewer, proof)
		}
	}
	for i := range proof {
		if without := slices.Delete(slices.Clone(proof), i, i+1); signsOf(smallest(f.Signs, without)[0]) >= signsOf(set) {
			t.Errorf("%v and %v: Why of %d, %d = %v, but %v is enough", f, l, film, frame, proof, without)
		}
	}
	return proof
}

// P2.7
func TestAgree(t *testing.T) {
	long := []api.Gloss{
		gloss(0, 0, 0, 0, 10, 3), gloss(1, 0, 0, 2, 4, 1), gloss(1, 1, 0, 4, 7, 4), gloss(1, 2, 0, 8, 9, 2), gloss(1, 3, 1, 0, 4, 3),
		gloss(2, 0, 1, 1, 3, 2), gloss(2, 1, 0, 3, 6, 3), gloss(3, 0, 0, 0, 3, 1), gloss(3, 1, 0, 2, 10, 0),
	}
	for i, c := range []struct {
		l                []api.Gloss
		a, b, both, same int
	}{
		{messagesM(), 1, 2, 4, 4}, {messagesM(), 0, 2, 2, 0}, {messagesM(), 0, 1, 2, 0}, {messagesL(), 1, 2, 0, 0}, {messagesM(), 0, 7, 0, 0}, {nil, 0, 1, 0, 0},
		{long, 0, 1, 6, 3}, {long, 0, 2, 3, 3}, {long, 1, 2, 5, 3}, {long, 0, 3, 0, 0}, {long, 2, 1, 5, 3},
	} {
		if both, same, e := glosses.Agree(filmsF(), c.l, c.a, c.b); both != c.both || same != c.same || e != api.OK {
			t.Errorf("%d: Agree = %d, %d, %d, want %d, %d", i, both, same, e, c.both, c.same)
		}
	}
	for _, x := range [][2]int{{-1, 0}, {0, -1}, {8, 0}, {0, 8}, {0, 0}, {7, 7}, {9, 9}, {math.MinInt, math.MaxInt}} {
		if both, same, e := glosses.Agree(filmsF(), messagesM(), x[0], x[1]); both != 0 || same != 0 || e != api.ErrArg {
			t.Errorf("Agree of %v = %d, %d, %d", x, both, same, e)
		}
	}
}

// P2.7, P2.14: frame by frame, in both orders.
func TestAgreeInBothOrders(t *testing.T) {
	r := chance()
	some := 0
	for range 300 {
		f := drawFilms(r)
		l := drawMessages(r, f, 40)
		a := r.IntN(api.MaxAuthors)
		b := (a + 1 + r.IntN(api.MaxAuthors-1)) % api.MaxAuthors
		wantBoth, wantSame := 0, 0
		eachFrame(f, func(film, frame int) {
			var sets []int
			for _, x := range inFrame(l, film, frame) {
				if x.Author == a || x.Author == b {
					sets = append(sets, x.Signs)
				}
			}
			if len(sets) == 2 {
				wantBoth++
			}
			if len(sets) == 2 && sets[0]&sets[1] != 0 {
				wantSame++
			}
		})
		some += wantSame
		for _, authors := range [][2]int{{a, b}, {b, a}} {
			if both, same, e := glosses.Agree(f, l, authors[0], authors[1]); both != wantBoth || same != wantSame || e != api.OK {
				t.Errorf("%v and %v: Agree of %v = %d, %d, %d, want %d, %d", f, l, authors, both, same, e, wantBoth, wantSame)
			}
		}
	}
	if some == 0 {
		t.Error("the drawn authors never agree")
	}
}

// P2.14
func TestTwoAgree(t *testing.T) {
	for x := 1; x < 32; x++ {
		for y := 1; y < 32; y++ {
			want := 1
			if x&y == 0 {
				want = 2
			}
			set := readingsByFrame(t, filmsF(), messagesIn(x, y), 0)[0]
			if signsOf(set) != want {
				t.Errorf("the reading of %d and %d is %d", x, y, set)
			}
		}
	}
}

// P2.12
func TestOneMoreGloss(t *testing.T) {
	r := chance()
	grows := map[int]int{}
	for range 300 {
		f := drawFilms(r)
		l := drawMessages(r, f, 25)
		more := drawGloss(r, f, r.IntN(api.MaxAuthors), 1000+r.IntN(9000))
		if r.IntN(2) == 0 {
			more.Signs = 1 + r.IntN(1<<f.Signs-1)
		}
		before, after := readingsByFrame(t, f, l, more.Film), readingsByFrame(t, f, append(slices.Clone(l), more), more.Film)
		for frame := range before {
			if slices.ContainsFunc(inFrame(l, more.Film, frame), func(x api.Gloss) bool { return x.Author == more.Author }) {
				continue
			}
			n := signsOf(after[frame]) - signsOf(before[frame])
			if n < 0 || n > 1 {
				t.Errorf("%v and %v: with %v the size of %d changes from %d to %d", f, l, more, frame, before[frame], after[frame])
			}
			grows[n]++
		}
	}
	if grows[0] == 0 || grows[1] == 0 {
		t.Errorf("the drawn glosses never change the size: %v", grows)
	}
}

// P2.13
func TestTheLastWord(t *testing.T) {
	r := chance()
	changed := 0
	for range 300 {
		f := drawFilms(r)
		l := drawMessages(r, f, 39)
		back := drawGloss(r, f, r.IntN(api.MaxAuthors), 9999)
		back.Signs = 0
		others := slices.DeleteFunc(slices.Clone(l), func(x api.Gloss) bool { return x.Author == back.Author })
		with := append(slices.Clone(l), back)
		before, got, want := readingsByFrame(t, f, l, back.Film), readingsByFrame(t, f, with, back.Film), readingsByFrame(t, f, others, back.Film)
		for frame := back.From; frame < back.To; frame++ {
			sure, may, e := glosses.Sure(f, with, back.Film, frame)
			wantSure, wantMay, _ := glosses.Sure(f, others, back.Film, frame)
			if got[frame] != want[frame] || sure != wantSure || may != wantMay || e != api.OK {
				t.Errorf("%v and %v: after %v the reading of %d is %d, want %d", f, l, back, frame, got[frame], want[frame])
			}
			if got[frame] != before[frame] {
				changed++
			}
		}
	}
	if changed == 0 {
		t.Error("the drawn authors never take anything back")
	}
}
