package glosses_test

import (
	"math/rand/v2"
	"slices"
	"testing"

	"handshape/api"
	"handshape/glosses"
)

// filmsF are the films F of the chapter's examples.
func filmsF() api.Films { return api.Films{Frames: []int{10, 4}, Signs: 5} }

func gloss(author, stamp, film, from, to, signs int) api.Gloss {
	return api.Gloss{Author: author, Stamp: stamp, Film: film, From: from, To: to, Signs: signs}
}

// messagesM are the messages M of the chapter's examples.
func messagesM() []api.Gloss {
	return []api.Gloss{gloss(0, 1, 0, 0, 6, 3), gloss(1, 1, 0, 2, 8, 4), gloss(2, 5, 0, 4, 10, 6), gloss(0, 2, 0, 5, 7, 1), gloss(1, 7, 1, 0, 4, 16)}
}

// messagesL are the messages L of the chapter's examples.
func messagesL() []api.Gloss { return append(messagesM(), gloss(2, 6, 0, 9, 10, 0)) }

// messagesIn are messages of so many authors, one each, that all contain the frame 0 of the film 0.
func messagesIn(signs ...int) []api.Gloss {
	var l []api.Gloss
	for author, set := range signs {
		l = append(l, gloss(author, author, 0, 0, 1+author%3, set))
	}
	return l
}

// chance draws the same numbers in each run of the tests.
func chance() *rand.Rand { return rand.New(rand.NewPCG(3, 4)) }

// drawFilms draws films with few frames, so that glosses often have some in common.
func drawFilms(r *rand.Rand) api.Films {
	f := api.Films{Signs: 1 + r.IntN(6)}
	for range 1 + r.IntN(3) {
		f.Frames = append(f.Frames, 1+r.IntN(8))
	}
	return f
}

func drawGloss(r *rand.Rand, f api.Films, author, stamp int) api.Gloss {
	film := r.IntN(len(f.Frames))
	from := r.IntN(f.Frames[film])
	signs := 1<<r.IntN(f.Signs) | 1<<r.IntN(f.Signs)
	if r.IntN(6) == 0 {
		signs = 0
	}
	return gloss(author, stamp, film, from, from+1+r.IntN(f.Frames[film]-from), signs)
}

// drawMessages draws messages that do not clash, all different, with stamps below 1000.
func drawMessages(r *rand.Rand, f api.Films, most int) []api.Gloss {
	var l []api.Gloss
	for _, stamp := range r.Perm(1000)[:r.IntN(most+1)] {
		l = append(l, drawGloss(r, f, r.IntN(api.MaxAuthors), stamp))
	}
	return l
}

// shuffled is the same messages in another order, with some of them twice.
func shuffled(r *rand.Rand, l []api.Gloss) []api.Gloss {
	l = slices.Clone(l)
	for _, x := range l {
		if len(l) < api.MaxGlosses && r.IntN(2) == 0 {
			l = append(l, x)
		}
	}
	r.Shuffle(len(l), func(i, j int) { l[i], l[j] = l[j], l[i] })
	return l
}

// ordered is messages in the order of the author, then of the stamp, each once.
func ordered(l []api.Gloss) []api.Gloss {
	l = slices.Clone(l)
	slices.SortFunc(l, func(x, y api.Gloss) int { return x.Author*10000 + x.Stamp - y.Author*10000 - y.Stamp })
	return slices.Compact(l)
}

// lastStamp is the greatest stamp of an author in a frame.
func lastStamp(l []api.Gloss, author, film, frame int) int {
	last := -1
	for _, x := range l {
		if x.Author == author && x.Film == film && x.From <= frame && frame < x.To {
			last = max(last, x.Stamp)
		}
	}
	return last
}

// wantHeld are the glosses that have the last stamp of their author in each of their frames.
func wantHeld(l []api.Gloss) []api.Gloss {
	var held []api.Gloss
	for _, x := range ordered(l) {
		holds := x.Signs != 0
		for frame := x.From; frame < x.To; frame++ {
			holds = holds && lastStamp(l, x.Author, x.Film, frame) == x.Stamp
		}
		if holds {
			held = append(held, x)
		}
	}
	return held
}

// inFrame are the glosses that hold and contain a frame.
func inFrame(l []api.Gloss, film, frame int) []api.Gloss {
	var in []api.Gloss
	for _, x := range wantHeld(l) {
		if x.Film == film && x.From <= frame && frame < x.To {
			in = append(in, x)
		}
	}
	return in
}

func signsOf(set int) int {
	n := 0
	for ; set > 0; set /= 2 {
		n += set % 2
	}
	return n
}

func heard(set int, l []api.Gloss) bool {
	for _, x := range l {
		if x.Signs&set == 0 {
			return false
		}
	}
	return true
}

// smallest are all sets with the fewest signs that agree with some glosses, from the lowest number up.
func smallest(signs int, l []api.Gloss) []int {
	for n := range signs + 1 {
		var sets []int
		for set := range 1 << signs {
			if signsOf(set) == n && heard(set, l) {
				sets = append(sets, set)
			}
		}
		if len(sets) > 0 {
			return sets
		}
	}
	return nil
}

// readingsByFrame are the sets that Readings returns, for each frame.
func readingsByFrame(t *testing.T, f api.Films, l []api.Gloss, film int) []int {
	t.Helper()
	readings, e := glosses.Readings(f, l, film)
	if e != api.OK {
		t.Fatalf("Readings of %v and %v, %d: error %d", f, l, film, e)
	}
	sets := make([]int, f.Frames[film])
	for _, x := range readings {
		for frame := x.From; frame < x.To; frame++ {
			sets[frame] = x.Signs
		}
	}
	return sets
}

// eachFrame calls a function for each frame of each film.
func eachFrame(f api.Films, do func(film, frame int)) {
	for film, frames := range f.Frames {
		for frame := range frames {
			do(film, frame)
		}
	}
}
