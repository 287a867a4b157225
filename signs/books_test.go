package signs_test

import (
	"math"
	"slices"
	"testing"

	"handshape/api"
	"handshape/signs"
)

// changed is the book B with one entry changed.
func changed(i int, change func(x *api.Entry)) []api.Entry {
	l := bookB()
	change(&l[i])
	return l
}

// invalidBooks has a book for each bound, just beyond it.
func invalidBooks() [][]api.Entry {
	l := [][]api.Entry{
		changed(3, func(x *api.Entry) { x.Id = -1 }), changed(3, func(x *api.Entry) { x.Id = 100 }),
		changed(3, func(x *api.Entry) { x.Sign = -1 }), changed(3, func(x *api.Entry) { x.Sign = 1000 }),
		changed(3, func(x *api.Entry) { x.Regions = 0 }), changed(3, func(x *api.Entry) { x.Regions = 256 }),
		changed(3, func(x *api.Entry) { x.Ages = span(-1, 5) }), changed(3, func(x *api.Entry) { x.Ages = span(5, 121) }),
		changed(3, func(x *api.Entry) { x.Ages = span(6, 5) }), changed(3, func(x *api.Entry) { x.Ages = span(math.MinInt, math.MaxInt) }),
		slices.Repeat(bookB()[:1], 41),
	}
	for _, f := range invalidForms() {
		l = append(l, changed(0, func(x *api.Entry) { x.Form = f }))
	}
	return l
}

// clashes has a book for each way in which two entries of the same Id are not alike.
func clashes() [][]api.Entry {
	var l [][]api.Entry
	for _, change := range []func(x *api.Entry){
		func(x *api.Entry) { x.Sign++ }, func(x *api.Entry) { x.Regions = 1 },
		func(x *api.Entry) { x.Ages.Low = 1 }, func(x *api.Entry) { x.Ages.High = 61 },
		func(x *api.Entry) { x.Form.Right = 4 }, func(x *api.Entry) { x.Form.Column = 1 }, func(x *api.Entry) { x.Form.Face = 1 },
		func(x *api.Entry) { x.Form.Moves[1] = 3 }, func(x *api.Entry) { x.Form.Moves = x.Form.Moves[:1] },
	} {
		other := bookB()[0]
		change(&other)
		l = append(l, append(bookB(), other))
	}
	return l
}

// P1.3
func TestCheck(t *testing.T) {
	alike := bookB()[0]
	alike.Form = mirrorF
	for _, l := range [][]api.Entry{
		nil, bookB(), append(bookB(), alike, alike), slices.Repeat(bookB(), 10),
		changed(0, func(x *api.Entry) { x.Id, x.Sign, x.Regions, x.Ages = 99, 999, 255, span(120, 120) }),
		changed(0, func(x *api.Entry) { x.Id, x.Sign, x.Regions, x.Ages = 0, 0, 1, span(0, 0) }),
	} {
		if e := signs.Check(l); e != api.OK {
			t.Errorf("Check of %v = %d", l, e)
		}
	}
	for _, f := range validForms() {
		if e := signs.Check(changed(1, func(x *api.Entry) { x.Form = f })); e != api.OK {
			t.Errorf("Check with %v = %d", f, e)
		}
	}
	for _, l := range invalidBooks() {
		if e := signs.Check(l); e != api.ErrBook {
			t.Errorf("Check of %v = %d", l, e)
		}
	}
	for _, l := range clashes() {
		if e := signs.Check(l); e != api.ErrAlike {
			t.Errorf("Check of %v = %d", l, e)
		}
		l[1].Regions = 0
		if e := signs.Check(l); e != api.ErrBook {
			t.Errorf("Check of %v = %d", l, e)
		}
	}
}

// P1.4
func TestMerge(t *testing.T) {
	b := bookB()
	got, e := signs.Merge([]api.Entry{b[3], b[1], b[1]}, []api.Entry{b[2], b[0], b[3]})
	want := bookB()
	want[1].Form = formF
	want[3].Form = api.Form{Right: -1, Left: 4, Row: 3, Moves: []int{6, 6, 2}}
	if e != api.OK || !slices.EqualFunc(got, want, sameEntry) {
		t.Errorf("Merge = %v, %d, want %v", got, e, want)
	}
	if got, e := signs.Merge(nil, nil); e != api.OK || len(got) != 0 {
		t.Errorf("Merge of nothing = %v, %d", got, e)
	}
}

// numbered is a book of so many entries, with the Ids from first on.
func numbered(first, n int) []api.Entry {
	var l []api.Entry
	for i := range n {
		l = append(l, api.Entry{Id: first + i, Form: copied(formF), Regions: 1})
	}
	return l
}

// P1.4
func TestMergeErrors(t *testing.T) {
	other := func(l []api.Entry) []api.Entry {
		l = copiedBook(l)
		l[0].Sign++
		return l
	}
	bad, clash := invalidBooks()[0], clashes()[0]
	for i, c := range []struct {
		l, more []api.Entry
		want    api.Errno
	}{
		{numbered(0, 40), numbered(0, 40), api.OK},
		{numbered(0, 20), numbered(20, 20), api.OK},
		{numbered(0, 20), numbered(20, 21), api.ErrMany},
		{numbered(0, 40), numbered(40, 1), api.ErrMany},
		{numbered(0, 40), other(numbered(39, 2)), api.ErrMany},
		{numbered(0, 40), other(numbered(39, 1)), api.ErrAlike},
		{bookB(), other(bookB()), api.ErrAlike},
		{bad, clash, api.ErrBook}, {clash, bad, api.ErrAlike}, {bookB(), bad, api.ErrBook}, {bookB(), clash, api.ErrAlike},
		{numbered(0, 41), clash, api.ErrBook}, {clash, numbered(0, 41), api.ErrAlike},
	} {
		if got, e := signs.Merge(c.l, c.more); e != c.want || e != api.OK && len(got) > 0 {
			t.Errorf("%d: Merge = %v, %d, want %d", i, got, e, c.want)
		}
	}
}

func TestMergeIsNewMemory(t *testing.T) {
	a, b := bookB(), append(bookB()[:2], bookB()[0])
	b[1].Id, b[1].Form.Moves = 7, a[0].Form.Moves
	before, beforeMore := copiedBook(a), copiedBook(b)
	got, e := signs.Merge(a, b)
	if e != api.OK {
		t.Fatalf("Merge: error %d", e)
	}
	for i := range got {
		others := copiedBook(got)
		for j := range got[i].Form.Moves {
			got[i].Form.Moves[j] = 3
		}
		for j := range got {
			if j != i && !sameEntry(got[j], others[j]) {
				t.Errorf("a change of %v changes %v", got[i], got[j])
			}
		}
	}
	if !slices.EqualFunc(a, before, sameEntry) || !slices.EqualFunc(b, beforeMore, sameEntry) {
		t.Errorf("the arguments of Merge are changed: %v, %v", a, b)
	}
}

// P1.5
func TestOrder(t *testing.T) {
	equal := append(bookB(), bookB()[0], bookB()[1])
	equal[0].Sign, equal[4].Sign = 21, 21
	equal = append(equal, api.Entry{Id: 0, Sign: 21, Form: formF, Regions: 1})
	for _, c := range []struct {
		l    []api.Entry
		want []int
	}{
		{nil, nil},
		{bookB(), []int{1, 2, 3, 4}},
		{changed(1, func(x *api.Entry) { x.Sign = 10 }), []int{1, 2, 3, 4}},
		{changed(1, func(x *api.Entry) { x.Sign, x.Id = 10, 0 }), []int{0, 1, 3, 4}},
		{changed(0, func(x *api.Entry) { x.Sign = 21 }), []int{2, 1, 3, 4}},
		{changed(0, func(x *api.Entry) { x.Form.Row = 5 }), []int{2, 3, 4, 1}},
		{changed(2, func(x *api.Entry) { x.Id = 88 }), []int{1, 2, 88, 4}},
		{equal, []int{2, 0, 1, 3, 4}},
	} {
		if got, e := signs.Order(c.l); e != api.OK || !slices.Equal(got, c.want) {
			t.Errorf("Order of %v = %v, %d, want %v", c.l, got, e, c.want)
		}
	}
}

// P1.5: against an order of numbers.
func TestOrderOfMany(t *testing.T) {
	r := chance()
	for range 200 {
		l := drawBook(r, 40)
		byNumbers := slices.Clone(l)
		slices.SortFunc(byNumbers, func(x, y api.Entry) int {
			if n := slices.Compare(numbers(canonOf(x.Form)), numbers(canonOf(y.Form))); n != 0 {
				return n
			}
			return slices.Compare([]int{x.Sign, x.Id}, []int{y.Sign, y.Id})
		})
		var want []int
		for _, x := range byNumbers {
			want = append(want, x.Id)
		}
		if got, e := signs.Order(l); e != api.OK || !slices.Equal(got, want) {
			t.Errorf("Order of %v = %v, %d, want %v", l, got, e, want)
		}
	}
}

// P1.8
func TestTwins(t *testing.T) {
	three := changed(2, func(x *api.Entry) { x.Sign, x.Form = 5, formF })
	again := append(bookB(), api.Entry{Id: 9, Sign: 20, Form: formF, Regions: 1, Ages: span(60, 60)})
	for _, c := range []struct {
		l    []api.Entry
		want [][2]int
	}{
		{nil, nil},
		{bookB(), [][2]int{{10, 20}}},
		{again, [][2]int{{10, 20}}},
		{three, [][2]int{{5, 10}, {5, 20}, {10, 20}}},
		{changed(0, func(x *api.Entry) { x.Sign = 25 }), [][2]int{{20, 25}}},
		{changed(1, func(x *api.Entry) { x.Sign = 10 }), nil},
		{changed(1, func(x *api.Entry) { x.Regions = 4 }), nil},
		{changed(1, func(x *api.Entry) { x.Ages.Low = 60 }), [][2]int{{10, 20}}},
		{changed(1, func(x *api.Entry) { x.Ages.Low = 61 }), nil},
		{changed(1, func(x *api.Entry) { x.Form.Face = 1 }), nil},
		{changed(1, func(x *api.Entry) { x.Form.Moves[1] = 7 }), nil},
	} {
		if got, e := signs.Twins(c.l); e != api.OK || !slices.Equal(got, c.want) {
			t.Errorf("Twins of %v = %v, %d, want %v", c.l, got, e, c.want)
		}
	}
}

// P1.14: a pair is twins exactly if both are found by all that an entry of the first one shows in a region and at an age.
func TestTwinsShowTheSame(t *testing.T) {
	r := chance()
	for range 150 {
		l := drawBook(r, 12)
		var want [][2]int
		for a := range 6 {
			for b := a + 1; b < 6; b++ {
				if showTheSame(l, a, b) {
					want = append(want, [2]int{a, b})
				}
			}
		}
		if got, e := signs.Twins(l); e != api.OK || !slices.Equal(got, want) {
			t.Errorf("Twins of %v = %v, %d, want %v", l, got, e, want)
		}
	}
}

func showTheSame(l []api.Entry, a, b int) bool {
	for _, x := range l {
		for _, y := range l {
			if x.Sign != a || y.Sign != b || !sameForm(x.Form, y.Form) && !sameForm(x.Form, mirrored(y.Form)) {
				continue
			}
			for age := x.Ages.Low; age <= x.Ages.High; age++ {
				for region := range 8 {
					if bit(x.Regions, region) && bit(y.Regions, region) && y.Ages.Low <= age && age <= y.Ages.High {
						return true
					}
				}
			}
		}
	}
	return false
}

// P1.10
func TestHoweverItIsEntered(t *testing.T) {
	r := chance()
	for range 200 {
		l, s := drawBook(r, 25), drawSeen(r)
		again := reentered(r, l)
		order, _ := signs.Order(l)
		orderAgain, e := signs.Order(again)
		if e != api.OK || !slices.Equal(order, orderAgain) {
			t.Errorf("Order of %v = %v, of %v = %v, %d", l, order, again, orderAgain, e)
		}
		if found, again := find(t, l, s), find(t, again, s); !slices.Equal(found, again) {
			t.Errorf("Find of %v and %v = %v, otherwise %v", l, s, found, again)
		}
		part, left, e := signs.Ask(l, s)
		if p, n, f := signs.Ask(again, s); p != part || n != left || f != e {
			t.Errorf("Ask of %v and %v = %d, %d, %d, otherwise %d, %d, %d", l, s, part, left, e, p, n, f)
		}
		twins, _ := signs.Twins(l)
		if got, e := signs.Twins(again); e != api.OK || !slices.Equal(got, twins) {
			t.Errorf("Twins of %v = %v, otherwise %v, %d", l, twins, got, e)
		}
		merged, _ := signs.Merge(l, nil)
		cut := r.IntN(len(again) + 1)
		if got, e := signs.Merge(again[:cut], again[cut:]); e != api.OK || !slices.EqualFunc(got, merged, sameEntry) {
			t.Errorf("Merge of %v = %v, otherwise %v, %d", l, merged, got, e)
		}
		if got, e := signs.Merge(again[cut:], again[:cut]); e != api.OK || !slices.EqualFunc(got, merged, sameEntry) {
			t.Errorf("Merge of %v = %v, exchanged %v, %d", l, merged, got, e)
		}
	}
}
