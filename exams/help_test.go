package exams_test

import (
	"math/rand/v2"
	"slices"
	"testing"

	"handshape/api"
	"handshape/exams"
)

func span(low, high int) api.Span { return api.Span{Low: low, High: high} }

// paperP is the paper P of the chapter's examples.
func paperP() api.Paper {
	return api.Paper{
		Items: []api.Item{{Weight: 2, Most: 10}, {Weight: 1, Most: 20}},
		Judges: []api.Judge{
			{Bias: span(0, 1), Error: 1, Marks: []int{7, 15}},
			{Bias: span(-1, 0), Error: 0, Marks: []int{6, 13}},
			{Bias: span(0, 0), Error: 1, Marks: []int{3, 14}},
		},
		Wrong: 1, Grades: []int{20, 30},
	}
}

// paperQ is the paper Q of the chapter's examples.
func paperQ() api.Paper {
	p := paperP()
	p.Wrong = 2
	return p
}

// copied is a paper in new memory.
func copied(p api.Paper) api.Paper {
	p.Items, p.Judges, p.Grades = slices.Clone(p.Items), slices.Clone(p.Judges), slices.Clone(p.Grades)
	for i := range p.Judges {
		p.Judges[i].Marks = slices.Clone(p.Judges[i].Marks)
	}
	return p
}

// changed is a paper in new memory with a change.
func changed(p api.Paper, change func(p *api.Paper)) api.Paper {
	p = copied(p)
	change(&p)
	return p
}

func changedP(change func(p *api.Paper)) api.Paper { return changed(paperP(), change) }

// impossible is a paper for which no truth is possible: its judges contradict each other.
func impossible() api.Paper {
	return changedP(func(p *api.Paper) { p.Wrong = 0 })
}

func samePaper(p, q api.Paper) bool {
	sameJudge := func(a, b api.Judge) bool {
		return a.Bias == b.Bias && a.Error == b.Error && slices.Equal(a.Marks, b.Marks)
	}
	lists := slices.Equal(p.Items, q.Items) && slices.EqualFunc(p.Judges, q.Judges, sameJudge) && slices.Equal(p.Grades, q.Grades)
	return lists && p.Wrong == q.Wrong
}

// blank is a paper with items of the weight 1 that nobody marked.
func blank(most ...int) api.Paper {
	var p api.Paper
	for _, n := range most {
		p.Items = append(p.Items, api.Item{Weight: 1, Most: n})
	}
	return p
}

// marked is a paper with one more judge, who has no bias and makes no error.
func marked(p api.Paper, marks ...int) api.Paper {
	p = copied(p)
	p.Judges = append(p.Judges, api.Judge{Marks: marks})
	return p
}

// largest has as many truths as a paper can have, and marks that exclude few of them.
func largest() api.Paper {
	p := blank(30, 30, 30, 30)
	for i := range p.Items {
		p.Items[i].Weight = 7 + i
	}
	for i := range api.MaxJudges {
		p.Judges = append(p.Judges, api.Judge{Bias: span(-3, 3), Error: 5, Marks: []int{12 + i, 20 - i, -1, 15}})
	}
	p.Wrong, p.Grades = 2, []int{100, 400, 500, 600, 900}
	return p
}

// chance draws the same numbers in each run of the tests.
func chance() *rand.Rand { return rand.New(rand.NewPCG(9, 10)) }

func drawTruth(r *rand.Rand, items []api.Item) []int {
	var points []int
	for _, x := range items {
		points = append(points, r.IntN(x.Most+1))
	}
	return points
}

// drawJudge draws a judge who is right in a truth, or one who marks anything near it.
func drawJudge(r *rand.Rand, points []int, right bool, most int) api.Judge {
	low := r.IntN(2*api.MaxBias+1) - api.MaxBias
	high := low + r.IntN(api.MaxBias-low+1)
	j := api.Judge{Bias: span(low, high), Error: r.IntN(most + 1)}
	bias := low + r.IntN(high-low+1)
	for _, n := range points {
		mark := n + bias + r.IntN(2*j.Error+1) - j.Error
		if !right {
			mark += r.IntN(13) - 6
		}
		if mark < 0 || r.IntN(5) == 0 {
			mark = -1
		}
		j.Marks = append(j.Marks, min(mark, api.MaxMark))
	}
	return j
}

// drawLimits draws some limits up to one that most results do not reach.
func drawLimits(r *rand.Rand, items []api.Item) []int {
	most := 1
	for _, x := range items {
		most += x.Weight * x.Most
	}
	var l []int
	for range r.IntN(api.MaxLimits + 1) {
		l = append(l, r.IntN(min(most+most/5, api.MaxResult)+1))
	}
	slices.Sort(l)
	return slices.Compact(l)
}

// drawPaper draws a paper with items of at most so many points, and a truth in which at most Wrong of its judges are wrong; the errors of judges are up to a greatest one.
func drawPaper(r *rand.Rand, items, points, most int) (api.Paper, []int) {
	var p api.Paper
	for range items {
		p.Items = append(p.Items, api.Item{Weight: r.IntN(4), Most: r.IntN(points + 1)})
	}
	truth := drawTruth(r, p.Items)
	judges := r.IntN(api.MaxJudges + 1)
	p.Wrong = r.IntN(api.MaxUnfair + 1)
	for i := range judges {
		p.Judges = append(p.Judges, drawJudge(r, truth, i >= p.Wrong, most))
	}
	r.Shuffle(judges, func(i, j int) { p.Judges[i], p.Judges[j] = p.Judges[j], p.Judges[i] })
	p.Grades = drawLimits(r, p.Items)
	return p, truth
}

// eachSmall calls a function for drawn papers with so few truths that all can be gone through often. In some more judges are wrong than can be, so that no truth need be possible.
func eachSmall(times int, do func(r *rand.Rand, p api.Paper)) {
	r := chance()
	for range times {
		items := 1 + r.IntN(api.MaxItems)
		p, _ := drawPaper(r, items, 16/items, 2)
		if r.IntN(3) == 0 {
			p.Wrong = r.IntN(p.Wrong + 1)
		}
		do(r, p)
	}
}

// eachLarge calls a function for drawn papers of any size, and a truth that is possible.
func eachLarge(times int, do func(r *rand.Rand, p api.Paper, truth []int)) {
	r := chance()
	for range times {
		p, truth := drawPaper(r, 1+r.IntN(3), api.MaxPoints, api.MaxError)
		do(r, p, truth)
	}
}

// isRight reports whether a judge is right in a truth, by all biases.
func isRight(j api.Judge, points []int) bool {
	for bias := j.Bias.Low; bias <= j.Bias.High; bias++ {
		right := true
		for i, mark := range j.Marks {
			off := max(mark-points[i]-bias, points[i]+bias-mark)
			right = right && (mark == -1 || off <= j.Error)
		}
		if right {
			return true
		}
	}
	return false
}

// wrongIn are the judges who are wrong in a truth, in ascending order.
func wrongIn(p api.Paper, points []int) []int {
	var l []int
	for i, j := range p.Judges {
		if !isRight(j, points) {
			l = append(l, i)
		}
	}
	return l
}

// eachTruth calls a function for all truths, possible or not.
func eachTruth(p api.Paper, do func(points []int)) {
	points := make([]int, len(p.Items))
	var fill func(item int)
	fill = func(item int) {
		if item == len(points) {
			do(points)
			return
		}
		for n := 0; n <= p.Items[item].Most; n++ {
			points[item] = n
			fill(item + 1)
		}
	}
	fill(0)
}

// possibleTruths are all truths in which at most Wrong judges are wrong.
func possibleTruths(p api.Paper) [][]int {
	var l [][]int
	eachTruth(p, func(points []int) {
		if len(wrongIn(p, points)) <= p.Wrong {
			l = append(l, slices.Clone(points))
		}
	})
	return l
}

func resultOf(p api.Paper, points []int) int {
	sum := 0
	for i, x := range p.Items {
		sum += x.Weight * points[i]
	}
	return sum
}

func gradeOf(p api.Paper, points []int) int {
	grade := 0
	for _, limit := range p.Grades {
		if resultOf(p, points) >= limit {
			grade++
		}
	}
	return grade
}

// spanOf is the span from the least to the greatest number of some.
func spanOf(l []int) api.Span { return span(slices.Min(l), slices.Max(l)) }

// each is what a function has for each truth.
func each(truths [][]int, what func(points []int) int) []int {
	var l []int
	for _, points := range truths {
		l = append(l, what(points))
	}
	return l
}

func resultsIn(p api.Paper, truths [][]int) []int {
	return each(truths, func(points []int) int { return resultOf(p, points) })
}

func gradesIn(p api.Paper, truths [][]int) []int {
	return each(truths, func(points []int) int { return gradeOf(p, points) })
}

// isPossible reports whether a truth is one of the paper, and possible.
func isPossible(p api.Paper, points []int) bool {
	if len(points) != len(p.Items) {
		return false
	}
	for i, n := range points {
		if n < 0 || n > p.Items[i].Most {
			return false
		}
	}
	return len(wrongIn(p, points)) <= p.Wrong
}

func contains(x api.Span, n int) bool { return x.Low <= n && n <= x.High }

func rangeOf(t *testing.T, p api.Paper) api.Span {
	t.Helper()
	x, e := exams.Range(p)
	if e != api.OK {
		t.Fatalf("Range of %v: error %d", p, e)
	}
	return x
}

func gradesOf(t *testing.T, p api.Paper) api.Span {
	t.Helper()
	x, e := exams.Grade(p)
	if e != api.OK {
		t.Fatalf("Grade of %v: error %d", p, e)
	}
	return x
}

func fewestOf(t *testing.T, p api.Paper) int {
	t.Helper()
	n, e := exams.Fewest(p)
	if e != api.OK {
		t.Fatalf("Fewest of %v: error %d", p, e)
	}
	return n
}

// results are all that the functions return about a paper, a grade and an error of one more judge.
type results struct {
	errors              []api.Errno
	results, grades     api.Span
	points, ranks       []api.Span
	shown, blamed       []int
	fewest, item, width int
}

func resultsOf(p api.Paper, grade, err int) results {
	var x results
	e := make([]api.Errno, 9)
	e[0] = exams.Check(p)
	x.results, e[1] = exams.Range(p)
	x.points, e[2] = exams.Points(p)
	x.grades, e[3] = exams.Grade(p)
	x.shown, e[4] = exams.Show(p, grade)
	x.blamed, e[5] = exams.Blame(p)
	x.fewest, e[6] = exams.Fewest(p)
	x.item, x.width, e[7] = exams.Next(p, err)
	x.ranks, e[8] = exams.Ranks([]api.Paper{paperP(), p})
	x.errors = e
	return x
}

// isZero reports whether the functions with an error return nothing else.
func (x results) isZero() bool {
	zero := []bool{
		true, x.results == api.Span{}, len(x.points) == 0, x.grades == api.Span{}, len(x.shown) == 0,
		len(x.blamed) == 0, x.fewest == 0, x.item == 0 && x.width == 0, len(x.ranks) == 0,
	}
	for i, e := range x.errors {
		if e != api.OK && !zero[i] {
			return false
		}
	}
	return true
}
