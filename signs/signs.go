// Package signs is a dictionary of signs without letters: see shared/doc/01-signs.md.
package signs

import (
	"cmp"
	"maps"
	"slices"

	"handshape/api"
)

// Canon returns the canon of a form: the form or its mirror form, whichever comes first.
func Canon(f api.Form) (api.Form, api.Errno) {
	if !validForm(f) {
		return api.Form{}, api.ErrForm
	}
	return canon(f), api.OK
}

// Compare returns -1 if the canon of a comes before that of b, 0 if they are equal, otherwise 1.
func Compare(a, b api.Form) (int, api.Errno) {
	if !validForm(a) || !validForm(b) {
		return 0, api.ErrForm
	}
	return compareForms(canon(a), canon(b)), api.OK
}

// Check returns the first error of a book.
func Check(l []api.Entry) api.Errno {
	_, e := read(l)
	return e
}

// Merge returns all entries of two books, each Id once, ordered by Id, with the canons of their forms.
func Merge(l, more []api.Entry) ([]api.Entry, api.Errno) {
	b, e := read(l)
	if e != api.OK {
		return nil, e
	}
	other, e := read(more)
	if e != api.OK {
		return nil, e
	}
	clash := false
	for _, x := range other {
		clash = !b.add(x) || clash
	}
	if len(b) > api.MaxEntries {
		return nil, api.ErrMany
	}
	if clash {
		return nil, api.ErrAlike
	}
	byId := func(x, y api.Entry) int { return cmp.Compare(x.Id, y.Id) }
	return slices.SortedFunc(maps.Values(b), byId), api.OK
}

// Order returns all Ids, each once, in the order of the dictionary.
func Order(l []api.Entry) ([]int, api.Errno) {
	b, e := read(l)
	if e != api.OK {
		return nil, e
	}
	inDictionary := func(x, y api.Entry) int {
		return cmp.Or(compareForms(x.Form, y.Form), cmp.Compare(x.Sign, y.Sign), cmp.Compare(x.Id, y.Id))
	}
	var ids []int
	for _, x := range slices.SortedFunc(maps.Values(b), inDictionary) {
		ids = append(ids, x.Id)
	}
	return ids, api.OK
}

// Find returns all signs that agree with what was seen, in ascending order.
func Find(l []api.Entry, seen api.Seen) ([]int, api.Errno) {
	b, v, e := readSeen(l, seen)
	if e != api.OK {
		return nil, e
	}
	return v.signs(b), api.OK
}

// Ask returns the part to ask for, and how many signs agree at most after the answer.
func Ask(l []api.Entry, seen api.Seen) (part, left int, e api.Errno) {
	b, v, e := readSeen(l, seen)
	if e != api.OK {
		return 0, 0, e
	}
	if len(v.signs(b)) == 0 {
		return 0, 0, api.ErrNone
	}
	for p := range parts {
		n := v.greatest(b, p)
		if p == 0 || n < left {
			part, left = p, n
		}
	}
	return part, left, api.OK
}

// Twins returns all pairs of different signs, the lower one first, that somebody can make the same.
func Twins(l []api.Entry) ([][2]int, api.Errno) {
	b, e := read(l)
	if e != api.OK {
		return nil, e
	}
	var pairs [][2]int
	for _, x := range b {
		for _, y := range b {
			if x.Sign < y.Sign && sameShown(x, y) {
				pairs = append(pairs, [2]int{x.Sign, y.Sign})
			}
		}
	}
	slices.SortFunc(pairs, func(p, q [2]int) int { return slices.Compare(p[:], q[:]) })
	return slices.Compact(pairs), api.OK
}
