package glosses

import (
	"cmp"
	"slices"

	"handshape/api"
)

// notes are films that have been checked, with all messages about them, each once, and with those glosses that hold, both in the order of the author and then of the stamp.
type notes struct {
	api.Films
	messages, held []api.Gloss
}

// moment is what two messages have in common only if they are equal or clash.
type moment struct {
	author, stamp int
}

// read returns the first error of films and of slices of messages, one after the other and then together, or the notes that they are.
func read(f api.Films, lists ...[]api.Gloss) (notes, api.Errno) {
	n := notes{Films: f}
	if !n.validFilms() {
		return notes{}, api.ErrFilms
	}
	for _, l := range lists {
		if !n.validMessages(l) {
			return notes{}, api.ErrGloss
		}
		if _, clash := gather(l); clash {
			return notes{}, api.ErrClash
		}
	}
	all, clash := gather(lists...)
	if len(all) > api.MaxGlosses {
		return notes{}, api.ErrMany
	}
	if clash {
		return notes{}, api.ErrClash
	}
	n.messages, n.held = all, holding(all)
	return n, api.OK
}

func within(n, low, high int) bool { return low <= n && n <= high }

func (n notes) validFilms() bool {
	outside := func(frames int) bool { return !within(frames, 1, api.MaxFrames) }
	some := within(len(n.Frames), 1, api.MaxFilms) && within(n.Signs, 1, api.MaxReads)
	return some && !slices.ContainsFunc(n.Frames, outside)
}

func (n notes) validMessages(l []api.Gloss) bool {
	outside := func(x api.Gloss) bool { return !n.validMessage(x) }
	return len(l) <= api.MaxGlosses && !slices.ContainsFunc(l, outside)
}

func (n notes) validMessage(x api.Gloss) bool {
	known := within(x.Author, 0, api.MaxAuthors-1) && within(x.Stamp, 0, api.MaxWhen)
	return known && n.hasFilm(x.Film) && 0 <= x.From && x.From < x.To && x.To <= n.Frames[x.Film] && within(x.Signs, 0, 1<<n.Signs-1)
}

func (n notes) hasFilm(film int) bool { return within(film, 0, len(n.Frames)-1) }

func (n notes) hasFrame(film, frame int) bool {
	return n.hasFilm(film) && within(frame, 0, n.Frames[film]-1)
}

// gather returns all messages of some slices, each once, in their order, and whether some of them clash. Messages that clash are all counted, since the error of too many comes first.
func gather(lists ...[]api.Gloss) (all []api.Gloss, clash bool) {
	different := map[moment][]api.Gloss{}
	for _, l := range lists {
		for _, x := range l {
			at := moment{x.Author, x.Stamp}
			if !slices.Contains(different[at], x) {
				different[at] = append(different[at], x)
			}
		}
	}
	for _, same := range different {
		all = append(all, same...)
		clash = clash || len(same) > 1
	}
	slices.SortFunc(all, inOrder)
	return all, clash
}

func inOrder(x, y api.Gloss) int {
	return cmp.Or(cmp.Compare(x.Author, y.Author), cmp.Compare(x.Stamp, y.Stamp))
}

// pick returns those glosses that are chosen, in their order.
func pick(l []api.Gloss, chosen func(x api.Gloss) bool) []api.Gloss {
	var picked []api.Gloss
	for _, x := range l {
		if chosen(x) {
			picked = append(picked, x)
		}
	}
	return picked
}

// holding returns the glosses that hold.
func holding(messages []api.Gloss) []api.Gloss {
	return pick(messages, func(x api.Gloss) bool {
		replaces := func(y api.Gloss) bool {
			return y.Author == x.Author && y.Film == x.Film && y.Stamp > x.Stamp && common(x, y) > 0
		}
		return x.Signs != 0 && !slices.ContainsFunc(messages, replaces)
	})
}

// common returns how many frames two glosses of the same film have in common.
func common(x, y api.Gloss) int {
	return max(0, min(x.To, y.To)-max(x.From, y.From))
}
