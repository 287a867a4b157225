package signs_test

import (
	"math"
	"slices"
	"testing"

	"handshape/api"
	"handshape/signs"
)

// with is what was seen, changed.
func with(s api.Seen, change func(s *api.Seen)) api.Seen {
	change(&s)
	return s
}

// P1.6
func TestFind(t *testing.T) {
	for _, c := range []struct {
		change func(s *api.Seen)
		want   []int
	}{
		{func(s *api.Seen) {}, []int{10, 20}},
		{func(s *api.Seen) { s.Lost = 1 }, []int{10, 20}},
		{func(s *api.Seen) { s.Lost = 0 }, nil},
		// moves
		{func(s *api.Seen) { s.Moves, s.Lost = []int{2, 4}, 0 }, []int{10, 20}},
		{func(s *api.Seen) { s.Moves, s.Lost = []int{4, 2}, 0 }, nil},
		{func(s *api.Seen) { s.Moves, s.Lost = []int{4, 4}, 1 }, []int{10}},
		{func(s *api.Seen) { s.Moves, s.Lost = []int{64, 4}, 1 }, []int{10}},
		{func(s *api.Seen) { s.Moves, s.Lost = []int{255, 255, 255}, 6 }, []int{10}},
		{func(s *api.Seen) { s.Moves = []int{255, 255, 255, 255} }, nil},
		{func(s *api.Seen) { s.Moves, s.Faces = nil, 255 }, []int{10, 20, 30}},
		{func(s *api.Seen) { s.Moves, s.Faces, s.Lost = nil, 255, 0 }, nil},
		// hands: with the one or the other
		{func(s *api.Seen) { s.Rights, s.Lefts = 1<<4, 1 }, []int{10, 20}},
		{func(s *api.Seen) { s.Rights, s.Lefts, s.Moves = 1, 1<<4, []int{1 << 7} }, []int{10, 20}},
		{func(s *api.Seen) { s.Rights, s.Lefts = 1, 1 }, nil},
		{func(s *api.Seen) { s.Rights = allHands &^ (1 | 1<<4) }, []int{10}},
		// places and faces
		{func(s *api.Seen) { s.Rows = span(3, 3) }, []int{10}},
		{func(s *api.Seen) { s.Rows, s.Columns = span(3, 3), span(-3, -1) }, nil},
		{func(s *api.Seen) { s.Rows, s.Columns = span(2, 2), span(-1, -1) }, []int{10, 20}},
		{func(s *api.Seen) { s.Rows, s.Columns, s.Moves = span(2, 2), span(1, 1), []int{1 << 6} }, []int{10, 20}},
		{func(s *api.Seen) { s.Rows, s.Columns = span(2, 2), span(0, 0) }, nil},
		{func(s *api.Seen) { s.Rows, s.Columns = span(math.MinInt, 2), span(math.MinInt, math.MaxInt) }, []int{10, 20}},
		{func(s *api.Seen) { s.Faces, s.Moves = 1<<4, []int{1} }, []int{30}},
		{func(s *api.Seen) { s.Faces, s.Moves = 255-1<<4-1, []int{1} }, nil},
		// regions and ages
		{func(s *api.Seen) { s.Rows, s.Regions = span(2, 2), 1 }, []int{10}},
		{func(s *api.Seen) { s.Rows, s.Regions = span(2, 2), 4 }, []int{20}},
		{func(s *api.Seen) { s.Regions = 248 }, nil},
		{func(s *api.Seen) { s.Rows, s.Ages = span(2, 2), span(60, math.MaxInt) }, []int{10, 20}},
		{func(s *api.Seen) { s.Rows, s.Ages = span(2, 2), span(61, math.MaxInt) }, []int{20}},
		{func(s *api.Seen) { s.Rows, s.Ages = span(2, 2), span(math.MinInt, 39) }, []int{10}},
		{func(s *api.Seen) { s.Rows, s.Ages = span(2, 2), span(math.MinInt, 40) }, []int{10, 20}},
		{func(s *api.Seen) { s.Ages = span(121, 200) }, nil},
	} {
		s := with(seenS(), c.change)
		if got := find(t, bookB(), s); !slices.Equal(got, c.want) {
			t.Errorf("Find of %v = %v, want %v", s, got, c.want)
		}
	}
	if got := find(t, nil, seenS()); len(got) != 0 {
		t.Errorf("Find in no book = %v", got)
	}
}

// P1.6: all signs are numbers of the answer, in ascending order and each once.
func TestFindAscending(t *testing.T) {
	l := bookB()
	l[0].Sign, l[1].Sign, l[2].Sign, l[3].Sign = 999, 0, 7, 999
	if got := find(t, l, anything()); !slices.Equal(got, []int{0, 7, 999}) {
		t.Errorf("Find = %v", got)
	}
}

// invalidSeen has something seen for each bound, just beyond it.
func invalidSeen() []api.Seen {
	var l []api.Seen
	for _, change := range []func(s *api.Seen){
		func(s *api.Seen) { s.Rights = 0 }, func(s *api.Seen) { s.Rights = 1 << 33 }, func(s *api.Seen) { s.Rights = -1 },
		func(s *api.Seen) { s.Lefts = 0 }, func(s *api.Seen) { s.Lefts = 1 << 33 }, func(s *api.Seen) { s.Lefts = -1 },
		func(s *api.Seen) { s.Faces = 0 }, func(s *api.Seen) { s.Faces = 256 },
		func(s *api.Seen) { s.Regions = 0 }, func(s *api.Seen) { s.Regions = 256 },
		func(s *api.Seen) { s.Moves = []int{1, 0} }, func(s *api.Seen) { s.Moves = []int{1, 256} }, func(s *api.Seen) { s.Moves = slices.Repeat([]int{1}, 7) },
		func(s *api.Seen) { s.Lost = -1 }, func(s *api.Seen) { s.Lost = 7 },
		func(s *api.Seen) { s.Columns = span(0, -1) }, func(s *api.Seen) { s.Rows = span(3, 2) }, func(s *api.Seen) { s.Ages = span(1, 0) },
		func(s *api.Seen) { s.Columns = span(math.MaxInt, math.MinInt) },
	} {
		l = append(l, with(seenS(), change))
	}
	return append(l, api.Seen{})
}

// P1.6, P1.7
func TestSeenErrors(t *testing.T) {
	bad, clash := invalidBooks()[0], clashes()[0]
	for _, s := range invalidSeen() {
		for _, c := range []struct {
			l    []api.Entry
			want api.Errno
		}{{nil, api.ErrSeen}, {bookB(), api.ErrSeen}, {bad, api.ErrBook}, {clash, api.ErrAlike}} {
			if got, e := signs.Find(c.l, s); e != c.want || len(got) > 0 {
				t.Errorf("Find of %v = %v, %d, want %d", s, got, e, c.want)
			}
			if part, left, e := signs.Ask(c.l, s); part != 0 || left != 0 || e != c.want {
				t.Errorf("Ask of %v = %d, %d, %d, want %d", s, part, left, e, c.want)
			}
		}
	}
	for _, change := range []func(s *api.Seen){
		func(s *api.Seen) { s.Rights, s.Lefts, s.Faces, s.Regions = 1<<32, 1<<32, 128, 128 },
		func(s *api.Seen) { s.Moves, s.Lost = []int{255, 128, 1, 1, 1, 1}, 0 },
		func(s *api.Seen) { s.Rows, s.Columns, s.Ages = span(9, 9), span(-9, -9), span(-1, -1) },
		func(s *api.Seen) { s.Rows = span(math.MaxInt, math.MaxInt) },
		func(s *api.Seen) { s.Columns = span(math.MinInt, math.MinInt) },
	} {
		s := with(seenS(), change)
		if got := find(t, bookB(), s); len(got) > 0 {
			t.Errorf("Find of %v = %v", s, got)
		}
		if part, left, e := signs.Ask(bookB(), s); part != 0 || left != 0 || e != api.ErrNone {
			t.Errorf("Ask of %v = %d, %d, %d", s, part, left, e)
		}
	}
}

// P1.7
func TestAsk(t *testing.T) {
	// three signs whose forms differ in just one part each time
	differ := func(change func(f *api.Form, i int)) []api.Entry {
		l := numbered(0, 3)
		for i := range l {
			l[i].Sign, l[i].Form = i, api.Form{Right: 9, Left: 9, Row: 1, Moves: []int{0}}
			change(&l[i].Form, i)
		}
		return l
	}
	rows := differ(func(f *api.Form, i int) { f.Row = i })
	columns := differ(func(f *api.Form, i int) { f.Column = i })
	faces := differ(func(f *api.Form, i int) { f.Face = i })
	hands := differ(func(f *api.Form, i int) { f.Left = i })
	moves := differ(func(f *api.Form, i int) { f.Moves = []int{i} })
	rowsAndFaces := differ(func(f *api.Form, i int) { f.Row, f.Face = i/2, i })
	right := with(anything(), func(s *api.Seen) { s.Rights = 1 << 10 })
	wide := with(anything(), func(s *api.Seen) { s.Rows, s.Columns = span(math.MinInt, math.MaxInt), span(math.MinInt, math.MaxInt) })
	for i, c := range []struct {
		l          []api.Entry
		s          api.Seen
		part, left int
	}{
		{bookB(), seenS(), 0, 2},
		{bookB(), with(seenS(), func(s *api.Seen) { s.Regions = 1 }), 0, 1},
		{bookB(), anything(), 0, 2},
		{rows, anything(), 2, 1}, {columns, anything(), 3, 1}, {faces, anything(), 4, 1}, {rowsAndFaces, anything(), 4, 1},
		{rows, wide, 2, 1}, {columns, wide, 3, 1},
		{hands, right, 1, 1}, {hands, anything(), 0, 3},
		{moves, anything(), 0, 3},
		{rows, with(anything(), func(s *api.Seen) { s.Rows = span(1, 2) }), 2, 1},
		{rows, with(anything(), func(s *api.Seen) { s.Rows = span(2, 2) }), 0, 1},
	} {
		if part, left, e := signs.Ask(c.l, c.s); part != c.part || left != c.left || e != api.OK {
			t.Errorf("%d: Ask = %d, %d, %d, want %d, %d", i, part, left, e, c.part, c.left)
		}
	}
	for i, s := range []api.Seen{with(seenS(), func(s *api.Seen) { s.Lost = 0 }), with(seenS(), func(s *api.Seen) { s.Rows = span(-5, 1) })} {
		if part, left, e := signs.Ask(bookB(), s); part != 0 || left != 0 || e != api.ErrNone {
			t.Errorf("%d: Ask = %d, %d, %d", i, part, left, e)
		}
	}
	if part, left, e := signs.Ask(nil, anything()); part != 0 || left != 0 || e != api.ErrNone {
		t.Errorf("Ask in no book = %d, %d, %d", part, left, e)
	}
}

// P1.7, P1.13: each part counted by each of its answers.
func TestBestQuestion(t *testing.T) {
	r := chance()
	asked := map[int]int{}
	for range 300 {
		l, s := drawBook(r, 30), drawSeen(r)
		if r.IntN(3) == 0 {
			s = anything()
		}
		part, left, e := signs.Ask(l, s)
		if len(signsShown(l, s)) == 0 {
			if e != api.ErrNone {
				t.Errorf("Ask of %v and %v = %d, %d, %d", l, s, part, left, e)
			}
			continue
		}
		least, best := 0, math.MaxInt
		for p := range 5 {
			if n := worst(l, s, p); n < best {
				least, best = p, n
			}
		}
		if part != least || left != best || e != api.OK {
			t.Errorf("Ask of %v and %v = %d, %d, %d, want %d, %d", l, s, part, left, e, least, best)
		}
		for _, after := range answered(s, part) {
			if n := len(find(t, l, after)); n > left {
				t.Errorf("Ask of %v and %v = %d, %d, but %d agree after an answer", l, s, part, left, n)
			}
		}
		asked[part]++
	}
	for p := range 5 {
		if asked[p] == 0 {
			t.Errorf("the drawn books never lead to the part %d: %v", p, asked)
		}
	}
}

// P1.6, P1.11: all signs, and no others.
func TestFindAllSigns(t *testing.T) {
	r := chance()
	some := 0
	for range 400 {
		l, s := drawBook(r, 30), drawSeen(r)
		found := find(t, l, s)
		if want := signsShown(l, s); !slices.Equal(found, want) {
			t.Errorf("Find of %v and %v = %v, want %v", l, s, found, want)
		}
		some += len(found)
		for _, wider := range []api.Seen{
			with(s, func(s *api.Seen) { s.Rights = allHands }), with(s, func(s *api.Seen) { s.Lefts |= 2 }),
			with(s, func(s *api.Seen) { s.Faces |= 2 }), with(s, func(s *api.Seen) { s.Regions |= 4 }),
			with(s, func(s *api.Seen) { s.Lost++ }), with(s, func(s *api.Seen) { s.Rows.Low-- }),
			with(s, func(s *api.Seen) { s.Columns.High++ }), with(s, func(s *api.Seen) { s.Ages = span(0, 120) }),
			with(s, func(s *api.Seen) { s.Moves = slices.Repeat([]int{255}, len(s.Moves)) }),
		} {
			more := find(t, l, wider)
			if slices.ContainsFunc(found, func(sign int) bool { return !slices.Contains(more, sign) }) {
				t.Errorf("Find of %v and %v = %v, of the wider %v = %v", l, s, found, wider, more)
			}
		}
		oneMore := append(l, api.Entry{Id: idLeft(l), Sign: 9, Form: drawForm(r), Regions: 255, Ages: span(0, 120)})
		if got := slices.DeleteFunc(find(t, oneMore, s), func(sign int) bool { return sign == 9 }); !slices.Equal(got, found) {
			t.Errorf("Find of %v and %v = %v, with one more entry %v", l, s, found, got)
		}
	}
	if some == 0 {
		t.Error("the drawn books never have a sign that agrees")
	}
}

// idLeft is an Id that no entry has.
func idLeft(l []api.Entry) int {
	id := 0
	for slices.ContainsFunc(l, func(x api.Entry) bool { return x.Id == id }) {
		id++
	}
	return id
}

// P1.12
func TestWhatWasMadeIsFound(t *testing.T) {
	r := chance()
	for range 400 {
		l, made := drawBook(r, 10), drawForm(r)
		l = append(l, api.Entry{Id: idLeft(l), Sign: 77, Form: copied(made), Regions: 6, Ages: span(30, 40)})
		if r.IntN(2) == 0 {
			made = mirrored(made)
		}
		s := api.Seen{Rights: 1 << (made.Right + 1), Lefts: 1 << (made.Left + 1), Faces: 1 << made.Face, Regions: 1 << (1 + r.IntN(2)), Columns: span(made.Column, made.Column), Rows: span(made.Row, made.Row), Ages: span(30+r.IntN(11), 50)}
		for _, d := range made.Moves {
			if r.IntN(3) == 0 {
				s.Lost++
			} else {
				s.Moves = append(s.Moves, 1<<d|r.IntN(256))
			}
		}
		if found := find(t, l, s); !slices.Contains(found, 77) {
			t.Errorf("Find of %v and %v = %v, but %v was made", l, s, found, made)
		}
	}
}

// P1: extreme numbers and long slices lead to an error or to a result, never to a panic.
func TestAnyArguments(t *testing.T) {
	r := chance()
	number := func() int {
		return []int{math.MinInt, math.MinInt + 1, -1 << 33, -9, -1, 0, 1, 2, 7, 31, 255, 1 << 33, math.MaxInt - 1, math.MaxInt}[r.IntN(14)]
	}
	list := func() []int {
		var l []int
		for range r.IntN(9) {
			l = append(l, number())
		}
		return l
	}
	form := func() api.Form {
		return api.Form{Right: number(), Left: number(), Column: number(), Row: number(), Face: number(), Moves: list()}
	}
	for range 3000 {
		f := form()
		if c, e := signs.Canon(f); e != api.OK && !sameForm(c, api.Form{}) {
			t.Errorf("Canon of %v = %v, %d", f, c, e)
		}
		signs.Compare(f, form())
		x := api.Entry{Id: number(), Sign: number(), Form: f, Regions: number(), Ages: span(number(), number())}
		s := api.Seen{Rights: number(), Lefts: number(), Faces: number(), Regions: number(), Lost: number(), Columns: span(number(), number()), Rows: span(number(), number()), Ages: span(number(), number()), Moves: list()}
		for _, l := range [][]api.Entry{nil, bookB(), {x}, append(bookB(), x), slices.Repeat([]api.Entry{x}, 50)} {
			signs.Check(l)
			signs.Merge(l, bookB())
			signs.Order(l)
			signs.Find(l, s)
			signs.Ask(l, s)
			signs.Twins(l)
		}
	}
}

// The arguments stay as they are (R4).
func TestArgumentsStay(t *testing.T) {
	r := chance()
	for range 100 {
		l, s := drawBook(r, 20), drawSeen(r)
		before, seenBefore := copiedBook(l), s
		seenBefore.Moves = slices.Clone(s.Moves)
		signs.Check(l)
		signs.Order(l)
		signs.Find(l, s)
		signs.Ask(l, s)
		signs.Twins(l)
		if !slices.EqualFunc(l, before, sameEntry) || !sameSeen(s, seenBefore) {
			t.Errorf("arguments are changed: %v to %v, %v to %v", before, l, seenBefore, s)
		}
	}
}

// P1, R2: with the error of a book every other result is its zero value.
func TestErrorsOfBooks(t *testing.T) {
	for i, l := range append(invalidBooks(), clashes()...) {
		want := api.ErrBook
		if i >= len(invalidBooks()) {
			want = api.ErrAlike
		}
		if got, e := signs.Merge(l, bookB()); e != want || len(got) > 0 {
			t.Errorf("%d: Merge = %v, %d", i, got, e)
		}
		if got, e := signs.Order(l); e != want || len(got) > 0 {
			t.Errorf("%d: Order = %v, %d", i, got, e)
		}
		if got, e := signs.Find(l, anything()); e != want || len(got) > 0 {
			t.Errorf("%d: Find = %v, %d", i, got, e)
		}
		if part, left, e := signs.Ask(l, anything()); part != 0 || left != 0 || e != want {
			t.Errorf("%d: Ask = %d, %d, %d", i, part, left, e)
		}
		if got, e := signs.Twins(l); e != want || len(got) > 0 {
			t.Errorf("%d: Twins = %v, %d", i, got, e)
		}
	}
}
