package exams_test

import (
	"math/rand/v2"
	"slices"
	"testing"

	"handshape/api"
	"handshape/exams"
)

// judged is a paper with one more judge.
func judged(p api.Paper, bias api.Span, err int, marks ...int) api.Paper {
	p = copied(p)
	p.Judges = append(p.Judges, api.Judge{Bias: bias, Error: err, Marks: marks})
	return p
}

// unfair is a paper with another Wrong.
func unfair(p api.Paper, wrong int) api.Paper {
	p.Wrong = wrong
	return p
}

// P9.2, P9.3, P9.6, P9.7: which judges are right in a truth.
func TestJudges(t *testing.T) {
	for i, x := range []struct {
		p      api.Paper
		points []api.Span
		blamed []int
		fewest int
	}{
		// nobody marked anything
		{blank(5, 7), []api.Span{span(0, 5), span(0, 7)}, nil, 0}, {unfair(blank(0), 2), []api.Span{span(0, 0)}, nil, 0}, {marked(blank(5, 7), -1, -1), []api.Span{span(0, 5), span(0, 7)}, nil, 0},
		// an error, or a bias, alone and together, at the ends of the points
		{judged(blank(9), span(0, 0), 0, 4), []api.Span{span(4, 4)}, nil, 0}, {judged(blank(9), span(0, 0), 2, 4), []api.Span{span(2, 6)}, nil, 0}, {judged(blank(9), span(0, 0), 5, 4), []api.Span{span(0, 9)}, nil, 0},
		{judged(blank(9), span(1, 1), 0, 4), []api.Span{span(3, 3)}, nil, 0}, {judged(blank(9), span(-1, -1), 0, 4), []api.Span{span(5, 5)}, nil, 0}, {judged(blank(9), span(-3, 1), 0, 4), []api.Span{span(3, 7)}, nil, 0}, {judged(blank(9), span(-1, 2), 1, 4), []api.Span{span(1, 6)}, nil, 0},
		{judged(blank(9), span(0, 0), 1, 10), []api.Span{span(9, 9)}, nil, 0}, {judged(blank(9), span(3, 3), 5, 17), []api.Span{span(9, 9)}, nil, 0}, {judged(blank(9), span(-3, -3), 0, 0), []api.Span{span(3, 3)}, nil, 0}, {judged(blank(9), span(3, 3), 3, 0), []api.Span{span(0, 0)}, nil, 0},
		// one bias for all items: with an error of 1 two of them can differ by 2 from what was marked apart
		{judged(blank(0, 9), span(-3, 3), 0, 2, 5), []api.Span{span(0, 0), span(3, 3)}, nil, 0}, {judged(blank(0, 9), span(-3, 3), 1, 2, 5), []api.Span{span(0, 0), span(1, 5)}, nil, 0}, {judged(blank(0, 9), span(-3, 1), 1, 2, 5), []api.Span{span(0, 0), span(3, 5)}, nil, 0},
		{judged(blank(0, 9), span(-3, 3), 0, -1, 5), []api.Span{span(0, 0), span(2, 8)}, nil, 0}, {judged(blank(9, 9), span(-1, 1), 0, -1, 5), []api.Span{span(0, 9), span(4, 6)}, nil, 0},
		// several judges, all right, also two who are the same
		{judged(judged(blank(9), span(0, 0), 1, 4), span(0, 0), 2, 7), []api.Span{span(5, 5)}, nil, 0}, {marked(marked(blank(9), 4), 4), []api.Span{span(4, 4)}, nil, 0}, {marked(marked(blank(9, 9), 4, -1), -1, 6), []api.Span{span(4, 4), span(6, 6)}, nil, 0},
		// one of them can be wrong, or surely is
		{unfair(marked(blank(9), 4), 1), []api.Span{span(0, 9)}, nil, 0}, {unfair(marked(marked(blank(9), 4), 4), 1), []api.Span{span(4, 4)}, nil, 0}, {unfair(marked(marked(blank(9), 4), 6), 1), []api.Span{span(4, 6)}, nil, 1},
		{unfair(marked(marked(marked(blank(9), 4), 6), 4), 1), []api.Span{span(4, 4)}, []int{1}, 1}, {unfair(marked(marked(marked(marked(blank(9), 4), 6), 4), 6), 1), nil, nil, 2}, {unfair(marked(marked(marked(marked(blank(9), 4), 6), 4), 6), 2), []api.Span{span(4, 6)}, nil, 2},
		{unfair(marked(blank(9), 10), 1), []api.Span{span(0, 9)}, []int{0}, 1}, {unfair(marked(blank(9, 9), 10, 3), 2), []api.Span{span(0, 9), span(0, 9)}, []int{0}, 1}, {unfair(marked(marked(marked(marked(blank(9), 10), 11), 6), 6), 2), []api.Span{span(6, 6)}, []int{0, 1}, 2},
		{unfair(marked(marked(marked(marked(blank(9), 8), 2), 2), 5), 2), []api.Span{span(2, 2)}, []int{0, 3}, 2}, {unfair(marked(marked(marked(blank(9), 10), 11), 12), 2), nil, nil, 3}, {marked(marked(marked(marked(blank(9), 50), 49), 48), 47), nil, nil, 4},
		// more judges can be wrong than there are
		{unfair(marked(blank(9), 4), 2), []api.Span{span(0, 9)}, nil, 0}, {unfair(marked(marked(blank(9), 4), 6), 2), []api.Span{span(0, 9)}, nil, 1}, {unfair(marked(marked(blank(9), 10), 6), 2), []api.Span{span(0, 9)}, []int{0}, 1},
		// who is right about each item alone need not be right about both
		{unfair(marked(marked(marked(blank(9, 9), 4, 5), 4, 6), 3, 6), 1), nil, nil, 2}, {unfair(marked(marked(marked(blank(9, 9), 4, 5), 4, 6), 3, 6), 2), []api.Span{span(3, 4), span(5, 6)}, nil, 2},
	} {
		points, e := exams.Points(x.p)
		blamed, f := exams.Blame(x.p)
		want := api.OK
		if x.points == nil {
			want = api.ErrNone
		}
		if !slices.Equal(points, x.points) || e != want || !slices.Equal(blamed, x.blamed) || f != want {
			t.Errorf("%d: Points = %v, %d; Blame = %v, %d", i, points, e, blamed, f)
		}
		if n := fewestOf(t, x.p); n != x.fewest {
			t.Errorf("%d: Fewest = %d", i, n)
		}
	}
}

// weighed is a paper in which nobody marked anything, with the weights of its items.
func weighed(p api.Paper, weights ...int) api.Paper {
	p = copied(p)
	for i, n := range weights {
		p.Items[i].Weight = n
	}
	return p
}

// graded is a paper with limits of grades.
func graded(p api.Paper, limits ...int) api.Paper {
	p.Grades = limits
	return p
}

// P9.2, P9.4, P9.5: a limit that is reached counts; without limits there is one grade.
func TestGrades(t *testing.T) {
	// the results are 0, 3 and 6, or 10 and 12
	steps := weighed(blank(2), 3)
	apart := unfair(marked(marked(weighed(blank(6), 2), 5), 6), 1)
	for i, x := range []struct {
		p       api.Paper
		results api.Span
		grades  api.Span
		shown   []int // the grades that some truth has
	}{
		{steps, span(0, 6), span(0, 0), []int{0}}, {graded(steps, 0), span(0, 6), span(1, 1), []int{1}}, {graded(steps, 6), span(0, 6), span(0, 1), []int{0, 1}}, {graded(steps, 7), span(0, 6), span(0, 0), []int{0}},
		{graded(steps, 1, 2, 3), span(0, 6), span(0, 3), []int{0, 3}}, {graded(steps, 1, 2, 4), span(0, 6), span(0, 3), []int{0, 2, 3}}, {graded(steps, 0, 1, 2, 3, 6), span(0, 6), span(1, 5), []int{1, 4, 5}}, {graded(steps, 0, 1, 4, 5, 1200), span(0, 6), span(1, 4), []int{1, 2, 4}},
		{graded(apart, 10, 11, 12), span(10, 12), span(1, 3), []int{1, 3}}, {graded(apart, 9, 13), span(10, 12), span(1, 1), []int{1}}, {graded(apart, 11), span(10, 12), span(0, 1), []int{0, 1}}, {graded(apart, 13), span(10, 12), span(0, 0), []int{0}},
		{graded(weighed(blank(4, 5), 0, 0), 0, 1), span(0, 0), span(1, 1), []int{1}}, {graded(weighed(blank(0, 0), 10, 10), 0, 1), span(0, 0), span(1, 1), []int{1}}, {graded(weighed(blank(4, 5), 0, 7), 35), span(0, 35), span(0, 1), []int{0, 1}},
		{graded(weighed(blank(30), 10), 290, 300, 301), span(0, 300), span(0, 2), []int{0, 1, 2}}, {graded(weighed(blank(30), 10), 299, 300, 301), span(0, 300), span(0, 2), []int{0, 2}},
	} {
		if results, grades := rangeOf(t, x.p), gradesOf(t, x.p); results != x.results || grades != x.grades {
			t.Errorf("%d: Range = %v, Grade = %v", i, results, grades)
		}
		for grade := range len(x.p.Grades) + 1 {
			l, e := exams.Show(x.p, grade)
			if slices.Contains(x.shown, grade) {
				if !isPossible(x.p, l) || gradeOf(x.p, l) != grade || e != api.OK {
					t.Errorf("%d: Show of %d = %v, %d", i, grade, l, e)
				}
			} else if len(l) > 0 || e != api.ErrNone {
				t.Errorf("%d: Show of %d = %v, %d", i, grade, l, e)
			}
		}
	}
}

// P9.2 to P9.4, P9.6, P9.7, P9.13: on small papers, by all truths.
func TestByAll(t *testing.T) {
	found, blames, unfairs := map[bool]int{}, 0, 0
	eachSmall(1500, func(r *rand.Rand, p api.Paper) {
		fewest := len(p.Judges)
		eachTruth(p, func(points []int) { fewest = min(fewest, len(wrongIn(p, points))) })
		truths := possibleTruths(p)
		found[len(truths) > 0]++
		want := results{fewest: fewest, errors: slices.Repeat([]api.Errno{api.ErrNone}, 9)}
		if len(truths) > 0 {
			want = results{fewest: fewest, errors: make([]api.Errno, 9), results: spanOf(resultsIn(p, truths)), grades: spanOf(gradesIn(p, truths))}
			for i := range p.Items {
				want.points = append(want.points, spanOf(each(truths, func(points []int) int { return points[i] })))
			}
			for i := range p.Judges {
				if !slices.ContainsFunc(truths, func(points []int) bool { return isRight(p.Judges[i], points) }) {
					want.blamed = append(want.blamed, i)
				}
			}
		}
		got := resultsOf(p, 0, 0)
		if got.results != want.results || got.grades != want.grades || !slices.Equal(got.points, want.points) || !slices.Equal(got.blamed, want.blamed) || got.fewest != fewest || got.errors[1] != want.errors[1] {
			t.Errorf("of %v: %v, want %v", p, got, want)
		}
		if len(want.blamed) > 0 {
			blames++
		}
		if fewest > 0 {
			unfairs++
		}
	})
	if found[true] < 500 || found[false] < 50 || blames < 50 || unfairs < 200 {
		t.Errorf("drawn papers have a possible truth: %v; %d blame somebody, of %d somebody is wrong", found, blames, unfairs)
	}
}

// P9.5, P9.11: on small papers, by all truths: each grade that some of them has is shown, and no other.
func TestShowByAll(t *testing.T) {
	found := map[bool]int{}
	eachSmall(1500, func(r *rand.Rand, p api.Paper) {
		grades := gradesIn(p, possibleTruths(p))
		for grade := range len(p.Grades) + 1 {
			l, e := exams.Show(p, grade)
			has := slices.Contains(grades, grade)
			found[has]++
			if has && (!isPossible(p, l) || gradeOf(p, l) != grade || e != api.OK) || !has && (len(l) > 0 || e != api.ErrNone) {
				t.Errorf("Show of %v and %d = %v, %d", p, grade, l, e)
			}
		}
	})
	if found[true] < 500 || found[false] < 500 {
		t.Errorf("some truths have a grade: %v", found)
	}
}

// P9.2 to P9.4: on a paper with as many truths as can be, by all of them.
func TestLargestByAll(t *testing.T) {
	p := largest()
	var all, results, grades []int
	var points [api.MaxItems][]int
	eachTruth(p, func(truth []int) {
		if len(wrongIn(p, truth)) > p.Wrong {
			return
		}
		results, grades = append(results, resultOf(p, truth)), append(grades, gradeOf(p, truth))
		for i, n := range truth {
			points[i] = append(points[i], n)
		}
		all = append(all, len(all))
	})
	got := resultsOf(p, 2, 0)
	if got.results != spanOf(results) || got.grades != spanOf(grades) || len(all) < 10000 {
		t.Errorf("Range = %v, Grade = %v, want %v, %v of %d truths", got.results, got.grades, spanOf(results), spanOf(grades), len(all))
	}
	for i, x := range got.points {
		if x != spanOf(points[i]) {
			t.Errorf("Points of %d = %v, want %v", i, x, spanOf(points[i]))
		}
	}
}

// P9.10: whatever the true points, the biases and the errors are.
func TestSure(t *testing.T) {
	several := 0
	eachLarge(1000, func(r *rand.Rand, p api.Paper, truth []int) {
		if !contains(rangeOf(t, p), resultOf(p, truth)) || !contains(gradesOf(t, p), gradeOf(p, truth)) {
			t.Errorf("of %v and %v: Range %v, Grade %v", p, truth, rangeOf(t, p), gradesOf(t, p))
		}
		points, e := exams.Points(p)
		if e != api.OK || len(points) != len(truth) {
			t.Fatalf("Points of %v = %v, %d", p, points, e)
		}
		for i, x := range points {
			if !contains(x, truth[i]) {
				t.Errorf("Points of %v and %v: %v", p, truth, points)
			}
		}
		if n := fewestOf(t, p); n > len(wrongIn(p, truth)) {
			t.Errorf("Fewest of %v and %v: %d", p, truth, n)
		}
		if len(p.Judges) > 1 {
			several++
		}
	})
	if several < 300 {
		t.Errorf("%d drawn papers have several judges", several)
	}
}

// P9.11: both ends of Grade are shown, and nothing beyond them; a judge who is not blamed is right in some possible truth.
func TestShown(t *testing.T) {
	ends, blames := 0, 0
	eachLarge(500, func(r *rand.Rand, p api.Paper, _ []int) {
		grades := gradesOf(t, p)
		for grade := range len(p.Grades) + 1 {
			l, e := exams.Show(p, grade)
			if e == api.OK && (!isPossible(p, l) || gradeOf(p, l) != grade || !contains(grades, grade)) {
				t.Errorf("Show of %v and %d = %v; Grade %v", p, grade, l, grades)
			}
			if end := grade == grades.Low || grade == grades.High; end && e != api.OK {
				t.Errorf("Show of %v and %d: error %d; Grade %v", p, grade, e, grades)
			}
		}
		if grades.Low < grades.High {
			ends++
		}
		blamed, e := exams.Blame(p)
		if e != api.OK || !slices.IsSorted(blamed) {
			t.Errorf("Blame of %v = %v, %d", p, blamed, e)
		}
		if len(blamed) > 0 {
			blames++
		}
		checkBlame(t, p, blamed)
	})
	if ends < 100 || blames < 20 {
		t.Errorf("%d drawn papers have several grades, %d a judge who is surely wrong", ends, blames)
	}
}

// checkBlame checks that those judges are blamed who are right in no possible truth.
func checkBlame(t *testing.T, p api.Paper, blamed []int) {
	t.Helper()
	for i, j := range p.Judges {
		found := false
		eachTruth(p, func(points []int) {
			found = found || isRight(j, points) && len(wrongIn(p, points)) <= p.Wrong
		})
		if found == slices.Contains(blamed, i) {
			t.Errorf("Blame of %v = %v", p, blamed)
		}
	}
}

// P9.12: with one more judge no result becomes possible.
func TestOneMoreJudge(t *testing.T) {
	fewer := 0
	eachLarge(500, func(r *rand.Rand, p api.Paper, truth []int) {
		if len(p.Judges) == api.MaxJudges {
			return
		}
		more := changed(p, func(p *api.Paper) { p.Judges = append(p.Judges, drawJudge(r, truth, r.IntN(3) > 0, api.MaxError)) })
		before := rangeOf(t, p)
		x, e := exams.Range(more)
		if e != api.OK && e != api.ErrNone || e == api.OK && (x.Low < before.Low || x.High > before.High) {
			t.Errorf("Range of %v = %v; of %v = %v, %d", p, before, more, x, e)
		}
		if x != before {
			fewer++
		}
	})
	eachSmall(500, func(r *rand.Rand, p api.Paper) {
		if len(p.Judges) == api.MaxJudges {
			return
		}
		more := changed(p, func(p *api.Paper) {
			p.Judges = append(p.Judges, drawJudge(r, drawTruth(r, p.Items), true, api.MaxError))
		})
		checkNoneLost(t, more, p)
	})
	if fewer < 100 {
		t.Errorf("one more judge excludes some results of %d drawn papers", fewer)
	}
}

// checkNoneLost checks that each grade of its own that a result of a paper has another paper has, too: all results that can be are told apart by limits.
func checkNoneLost(t *testing.T, p, other api.Paper) {
	t.Helper()
	for limit := range 60 {
		a, b := graded(p, limit, limit+1), graded(other, limit, limit+1)
		l, e := exams.Show(a, 1)
		if _, f := exams.Show(b, 1); e == api.OK && f != api.OK {
			t.Errorf("the result %d of %v, by %v, is lost in %v", limit, p, l, other)
		}
	}
}

// P9.12: with a greater Wrong, a greater Error or a wider Bias no result is lost.
func TestNoneLost(t *testing.T) {
	more := 0
	eachSmall(800, func(r *rand.Rand, p api.Paper) {
		wider := changed(p, func(p *api.Paper) {
			if len(p.Judges) == 0 || r.IntN(3) == 0 {
				p.Wrong = min(p.Wrong+1, api.MaxUnfair)
				return
			}
			j := &p.Judges[r.IntN(len(p.Judges))]
			switch r.IntN(3) {
			case 0:
				j.Error++
			case 1:
				j.Bias.Low = max(j.Bias.Low-1, -api.MaxBias)
			default:
				j.Bias.High = min(j.Bias.High+1, api.MaxBias)
			}
		})
		checkNoneLost(t, p, wider)
		x, _ := exams.Range(p)
		if y, _ := exams.Range(wider); x != y {
			more++
		}
	})
	if more < 50 {
		t.Errorf("%d drawn papers get another range", more)
	}
}

// P9.7, P9.13: with Fewest as Wrong some truth is possible, with less none is; Wrong does not matter to Fewest.
func TestFewest(t *testing.T) {
	counts := map[int]int{}
	eachLarge(500, func(r *rand.Rand, p api.Paper, _ []int) {
		p.Judges = append(p.Judges, drawJudge(r, drawTruth(r, p.Items), true, 2))
		p.Judges = p.Judges[max(0, len(p.Judges)-api.MaxJudges):]
		fewest := fewestOf(t, p)
		counts[fewest]++
		for wrong := range api.MaxUnfair + 1 {
			want := api.OK
			if wrong < fewest {
				want = api.ErrNone
			}
			if _, e := exams.Range(unfair(p, wrong)); e != want {
				t.Errorf("Range of %v with %d who can be wrong: error %d; Fewest %d", p, wrong, e, fewest)
			}
			if n := fewestOf(t, unfair(p, wrong)); n != fewest {
				t.Errorf("Fewest of %v with %d who can be wrong: %d, want %d", p, wrong, n, fewest)
			}
		}
	})
	if counts[0] < 50 || counts[1] < 50 || counts[2] < 10 {
		t.Errorf("the fewest wrong judges: %v", counts)
	}
}
