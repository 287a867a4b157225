package exams_test

import (
	"math"
	"slices"
	"testing"

	"handshape/api"
	"handshape/exams"
)

// validPapers has papers with each number at its bounds, and with the fewest and the most of each list.
func validPapers() []api.Paper {
	all := []api.Paper{paperP(), paperQ(), impossible(), largest(), blank(0), blank(0, 0, 0, 0), blank(30), marked(blank(3), -1), marked(blank(3), 50)}
	for _, change := range []func(p *api.Paper){
		func(p *api.Paper) { p.Items[0].Weight = 0 }, func(p *api.Paper) { p.Items[1].Weight = 10 },
		func(p *api.Paper) { p.Items[0].Most = 0 }, func(p *api.Paper) { p.Items[1].Most = 30 },
		func(p *api.Paper) { p.Judges = nil }, func(p *api.Paper) { p.Judges = append(p.Judges, p.Judges[0]) },
		func(p *api.Paper) { p.Judges[0].Bias = span(-3, 3) }, func(p *api.Paper) { p.Judges[2].Bias = span(3, 3) }, func(p *api.Paper) { p.Judges[2].Bias = span(-3, -3) },
		func(p *api.Paper) { p.Judges[2].Error = 0 }, func(p *api.Paper) { p.Judges[2].Error = 5 },
		func(p *api.Paper) { p.Judges[0].Marks = []int{-1, 0} }, func(p *api.Paper) { p.Judges[2].Marks = []int{-1, 50} },
		func(p *api.Paper) { p.Wrong = 2; p.Judges = nil },
		func(p *api.Paper) { p.Grades = nil }, func(p *api.Paper) { p.Grades = []int{0} }, func(p *api.Paper) { p.Grades = []int{0, 1, 2, 3, 1200} },
	} {
		all = append(all, changedP(change))
	}
	return all
}

// extremes are just beyond a least and a greatest number, and far beyond them.
func extremes(least, most int) []int {
	return []int{least - 1, most + 1, math.MinInt, math.MaxInt}
}

// changes are one change of the paper P for each of some numbers.
func changes(numbers []int, change func(p *api.Paper, n int)) []api.Paper {
	var l []api.Paper
	for _, n := range numbers {
		l = append(l, changedP(func(p *api.Paper) { change(p, n) }))
	}
	return l
}

// invalidPapers has papers with each number and each length just beyond its bounds.
func invalidPapers() []api.Paper {
	all := slices.Concat(
		changes(extremes(0, 10), func(p *api.Paper, n int) { p.Items[0].Weight = n }), changes(extremes(0, 10), func(p *api.Paper, n int) { p.Items[1].Weight = n }),
		changes(extremes(0, 30), func(p *api.Paper, n int) { p.Items[0].Most = n }), changes(extremes(0, 30), func(p *api.Paper, n int) { p.Items[1].Most = n }),
		changes(extremes(-3, 1), func(p *api.Paper, n int) { p.Judges[0].Bias.Low = n }), changes(extremes(0, 3), func(p *api.Paper, n int) { p.Judges[2].Bias.High = n }),
		changes(extremes(0, 5), func(p *api.Paper, n int) { p.Judges[0].Error = n }), changes(extremes(0, 5), func(p *api.Paper, n int) { p.Judges[2].Error = n }),
		changes(extremes(-1, 50), func(p *api.Paper, n int) { p.Judges[0].Marks[0] = n }), changes(extremes(-1, 50), func(p *api.Paper, n int) { p.Judges[2].Marks[1] = n }),
		changes(extremes(0, 2), func(p *api.Paper, n int) { p.Wrong = n }),
		changes(extremes(0, 29), func(p *api.Paper, n int) { p.Grades[0] = n }), changes(extremes(21, 1200), func(p *api.Paper, n int) { p.Grades[1] = n }),
	)
	for _, change := range []func(p *api.Paper){
		func(p *api.Paper) { p.Items, p.Judges = nil, nil }, func(p *api.Paper) { p.Items = nil }, func(p *api.Paper) { *p = blank(0, 0, 0, 0, 0) }, func(p *api.Paper) { *p = blank(make([]int, 1000)...) },
		func(p *api.Paper) { p.Items = p.Items[:1] }, func(p *api.Paper) { p.Items = append(p.Items, api.Item{}) },
		func(p *api.Paper) { p.Judges = slices.Repeat(p.Judges[:1], 5) }, func(p *api.Paper) { p.Judges = slices.Repeat(p.Judges[:1], 1000) },
		func(p *api.Paper) { p.Judges[0].Marks = nil }, func(p *api.Paper) { p.Judges[0].Marks = []int{7} }, func(p *api.Paper) { p.Judges[2].Marks = []int{7} }, func(p *api.Paper) { p.Judges[2].Marks = []int{7, 15, -1} },
		func(p *api.Paper) { p.Judges[1].Bias = span(1, 0) }, func(p *api.Paper) { p.Judges[1].Bias = span(-4, 3) }, func(p *api.Paper) { p.Judges[1].Bias = span(-3, 4) },
		func(p *api.Paper) { p.Grades = []int{1, 2, 3, 4, 5, 6} }, func(p *api.Paper) { p.Grades = []int{20, 20} }, func(p *api.Paper) { p.Grades = []int{30, 20} },
		func(p *api.Paper) { p.Grades = []int{1, 2, 3, 5, 4} }, func(p *api.Paper) { p.Grades = []int{1, 2, 3, 4, 4} }, func(p *api.Paper) { p.Grades = []int{1201} }, func(p *api.Paper) { p.Grades = []int{-1} },
	} {
		all = append(all, changedP(change))
	}
	return append(all, api.Paper{})
}

// P9.1
func TestCheck(t *testing.T) {
	for i, p := range validPapers() {
		if e := exams.Check(p); e != api.OK {
			t.Errorf("%d: Check of %v = %d", i, p, e)
		}
	}
	for i, p := range invalidPapers() {
		if e := exams.Check(p); e != api.ErrPaper {
			t.Errorf("%d: Check of %v = %d", i, p, e)
		}
	}
}

// P1, R1, R2: the error of the paper comes before those of grades and errors.
func TestErrors(t *testing.T) {
	for i, p := range invalidPapers() {
		for _, n := range []int{0, -1, 6, math.MinInt, math.MaxInt} {
			got := resultsOf(p, n, n)
			if !slices.Equal(got.errors, slices.Repeat([]api.Errno{api.ErrPaper}, 9)) || !got.isZero() {
				t.Errorf("%d: of %v and %d: %v", i, p, n, got)
			}
		}
	}
}

// P9.5, P9.8, R1, R2: grades and errors that cannot be come before a paper for which no truth is possible.
func TestErrorsOfNumbers(t *testing.T) {
	for _, p := range []api.Paper{paperP(), impossible()} {
		for _, n := range []int{-1, 6, math.MinInt, math.MaxInt} {
			got := resultsOf(p, n, n)
			if got.errors[4] != api.ErrArg || got.errors[7] != api.ErrArg || !got.isZero() {
				t.Errorf("of %v and %d: %v", p, n, got)
			}
		}
	}
	for grade := range 8 {
		for limits := range 6 {
			// no result is as great as the last limit
			p := blank(4)
			p.Grades = []int{1, 2, 3, 4, 5}[:limits]
			want := api.OK
			if grade > limits {
				want = api.ErrArg
			} else if grade == 5 {
				want = api.ErrNone
			}
			if l, e := exams.Show(p, grade); e != want || (len(l) > 0) != (want == api.OK) {
				t.Errorf("Show of %v and %d = %v, %d", p, grade, l, e)
			}
		}
	}
	for err := range 6 {
		if _, _, e := exams.Next(paperP(), err); e != api.OK {
			t.Errorf("Next of P with the error %d: error %d", err, e)
		}
	}
}

// P9.1 to P9.9, R2: no truth is possible.
func TestErrorsOfImpossible(t *testing.T) {
	none := api.ErrNone
	want := []api.Errno{api.OK, none, none, none, none, none, api.OK, none, none}
	for _, x := range []struct {
		p      api.Paper
		fewest int
	}{
		{impossible(), 1}, {changedP(func(p *api.Paper) { p.Wrong, p.Judges = 0, p.Judges[1:] }), 1},
		{marked(blank(3), 4), 1}, {marked(marked(blank(3), 4), 2), 1}, {marked(marked(blank(3), 1), 2), 1}, {marked(marked(marked(blank(3), 0), 1), 2), 2},
		{changed(marked(marked(marked(blank(3), 4), 5), 6), func(p *api.Paper) { p.Wrong = 2 }), 3},
		{changed(marked(marked(marked(marked(blank(3), 4), 5), 6), 7), func(p *api.Paper) { p.Wrong = 2 }), 4},
	} {
		if got := resultsOf(x.p, 0, 0); !slices.Equal(got.errors, want) || !got.isZero() || got.fewest != x.fewest {
			t.Errorf("of %v: %v", x.p, got)
		}
	}
}

// P9.9, R1: too many papers come first, then the errors of the papers in their order.
func TestErrorsOfRanks(t *testing.T) {
	p, bad, none := paperP(), api.Paper{}, impossible()
	for i, x := range []struct {
		l    []api.Paper
		want api.Errno
	}{
		{nil, api.OK}, {[]api.Paper{}, api.OK}, {[]api.Paper{p}, api.OK}, {slices.Repeat([]api.Paper{p}, 6), api.OK},
		{slices.Repeat([]api.Paper{p}, 7), api.ErrArg}, {slices.Repeat([]api.Paper{bad}, 7), api.ErrArg}, {slices.Repeat([]api.Paper{none}, 7), api.ErrArg}, {slices.Repeat([]api.Paper{none}, 1000), api.ErrArg},
		{[]api.Paper{bad}, api.ErrPaper}, {[]api.Paper{none}, api.ErrNone}, {[]api.Paper{bad, none}, api.ErrPaper}, {[]api.Paper{none, bad}, api.ErrNone},
		{[]api.Paper{p, p, p, p, bad, none}, api.ErrPaper}, {[]api.Paper{p, p, p, p, none, bad}, api.ErrNone}, {[]api.Paper{p, p, p, p, p, none}, api.ErrNone},
	} {
		l, e := exams.Ranks(x.l)
		if e != x.want || e != api.OK && len(l) > 0 || e == api.OK && len(l) != len(x.l) {
			t.Errorf("%d: Ranks = %v, %d, want error %d", i, l, e, x.want)
		}
	}
}

// P1: extreme numbers and long slices lead to an error or to a result, never to a panic.
func TestAnyArguments(t *testing.T) {
	r := chance()
	number := func() int {
		return []int{math.MinInt, math.MinInt + 1, -4, -3, -1, 0, 0, 0, 1, 1, 2, 3, 5, 6, 10, 30, 50, 1200, 1 << 40, math.MaxInt}[r.IntN(20)]
	}
	list := func(most int) []int {
		var l []int
		for range r.IntN(most + 1) {
			l = append(l, number())
		}
		return l
	}
	for range 2000 {
		x := api.Paper{Wrong: number(), Grades: list(6)}
		for range r.IntN(6) {
			x.Items = append(x.Items, api.Item{Weight: number(), Most: number()})
		}
		for range r.IntN(6) {
			x.Judges = append(x.Judges, api.Judge{Bias: span(number(), number()), Error: number(), Marks: list(5)})
		}
		y := changedP(func(p *api.Paper) { p.Judges[r.IntN(3)].Marks[r.IntN(2)], p.Items[r.IntN(2)].Most = number(), number() })
		z := changedP(func(p *api.Paper) { p.Wrong, p.Grades = number(), list(3) })
		for _, p := range []api.Paper{x, y, z, paperQ()} {
			resultsOf(p, number(), number())
			resultsOf(p, r.IntN(4), r.IntN(6))
			exams.Ranks([]api.Paper{z, p, x, y})
		}
	}
}

// R4: the arguments stay as they are, and the results share no memory with them.
func TestArgumentsStay(t *testing.T) {
	// slices with room behind their ends, so that what is added there would be seen
	q := paperQ()
	items, judges, grades, marks := append(slices.Clip(q.Items), api.Item{Weight: 9}), append(slices.Clip(q.Judges), api.Judge{Error: 9}), append(slices.Clip(q.Grades), 99), []int{7, 15, 99}
	q.Items, q.Judges, q.Grades = items[:2], judges[:3], grades[:2]
	q.Judges[0].Marks = marks[:2]
	papers := []api.Paper{q, q}
	for grade := range 3 {
		got := resultsOf(q, grade, 1)
		ranks, _ := exams.Ranks(papers[:1])
		for _, l := range [][]int{got.shown, got.blamed} {
			clear(append(l, 99))
		}
		for _, l := range [][]api.Span{got.points, got.ranks, ranks} {
			clear(append(l, span(9, 9)))
		}
	}
	if !samePaper(q, paperQ()) || !samePaper(papers[1], paperQ()) || items[2].Weight != 9 || judges[3].Error != 9 || grades[2] != 99 || marks[2] != 99 {
		t.Errorf("the arguments are changed: %v", q)
	}
}

// R3, R5: results of a call are the same again, and those of the largest papers are there.
func TestLargest(t *testing.T) {
	for _, p := range []api.Paper{largest(), changed(largest(), func(p *api.Paper) { p.Judges = nil }), changed(largest(), func(p *api.Paper) { p.Wrong = 0 })} {
		first, again := resultsOf(p, 2, 5), resultsOf(p, 2, 5)
		if !slices.Equal(first.errors, make([]api.Errno, 9)) || first.results != again.results || first.grades != again.grades || !slices.Equal(first.points, again.points) || !slices.Equal(first.shown, again.shown) || !slices.Equal(first.blamed, again.blamed) || first.item != again.item || first.width != again.width {
			t.Errorf("of %v: %v, then %v", p, first, again)
		}
	}
	p := changed(largest(), func(p *api.Paper) {
		p.Judges = nil
		for i := range p.Items {
			p.Items[i].Weight = 10
		}
		p.Grades = []int{1200}
	})
	if x, y := rangeOf(t, p), gradesOf(t, p); x != span(0, 1200) || y != span(0, 1) {
		t.Errorf("Range of the greatest paper: %v; Grade: %v", x, y)
	}
}
