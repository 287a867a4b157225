package signs

import "handshape/api"

// book holds entries by their Ids, each with the canon of its form, so that neither their order, nor how often each comes, nor a mirror form makes a difference.
type book map[int]api.Entry

func validEntry(x api.Entry) bool {
	known := within(x.Id, 0, api.MaxEntry) && within(x.Sign, 0, api.MaxSign)
	shown := within(x.Regions, 1, api.MaxRegions) && 0 <= x.Ages.Low && validSpan(x.Ages) && x.Ages.High <= api.MaxAge
	return known && shown && validForm(x.Form)
}

// read returns the book that a slice of entries stands for, or its first error.
func read(l []api.Entry) (book, api.Errno) {
	if !allOf(l, api.MaxEntries, validEntry) {
		return nil, api.ErrBook
	}
	b := book{}
	for _, x := range l {
		x.Form = canon(x.Form)
		if !b.add(x) {
			return nil, api.ErrAlike
		}
	}
	return b, api.OK
}

// add keeps an entry whose form is a canon, unless there is one with its Id already: then it reports whether the two are alike.
func (b book) add(x api.Entry) bool {
	if y, ok := b[x.Id]; ok {
		return x.Sign == y.Sign && x.Regions == y.Regions && x.Ages == y.Ages && compareForms(x.Form, y.Form) == 0
	}
	b[x.Id] = x
	return true
}

// sameShown reports whether two entries of a book show the same in some region and at some age.
func sameShown(x, y api.Entry) bool {
	return compareForms(x.Form, y.Form) == 0 && x.Regions&y.Regions != 0 && meet(x.Ages, y.Ages)
}
