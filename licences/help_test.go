package licences_test

import (
	"math/rand/v2"
	"slices"
	"testing"

	"handshape/api"
	"handshape/exams"
	"handshape/licences"
)

func span(low, high int) api.Span { return api.Span{Low: low, High: high} }

// days is a slice of spans, of their Lows and Highs in turn.
func days(l ...int) []api.Span {
	var spans []api.Span
	for i := 0; i < len(l); i += 2 {
		spans = append(spans, span(l[i], l[i+1]))
	}
	return spans
}

func exam(id, day, paper int) api.Act {
	return api.Act{Id: id, Day: day, Kind: api.Exam, Ref: paper}
}

func course(id, day, points int) api.Act {
	return api.Act{Id: id, Day: day, Kind: api.Course, Size: points}
}

func complaint(id, day, number int) api.Act {
	return api.Act{Id: id, Day: day, Kind: api.Complaint, Ref: number}
}

func verdict(id, day, number, size int) api.Act {
	return api.Act{Id: id, Day: day, Kind: api.Verdict, Ref: number, Size: size}
}

func offer(day, points, price int) api.Offer {
	return api.Offer{Day: day, Points: points, Price: price}
}

// paperP is the paper P of the examples of the chapter 9: its grade is 1.
func paperP() api.Paper {
	return api.Paper{
		Items: []api.Item{{Weight: 2, Most: 10}, {Weight: 1, Most: 20}},
		Judges: []api.Judge{
			{Bias: span(0, 1), Error: 1, Marks: []int{7, 15}},
			{Bias: span(-1, 0), Error: 0, Marks: []int{6, 13}},
			{Bias: span(0, 0), Error: 1, Marks: []int{3, 14}},
		},
		Wrong: 1, Grades: []int{20, 30},
	}
}

// paperQ is the paper Q of the examples of the chapter 9: its grade is from 0 to 2.
func paperQ() api.Paper {
	p := paperP()
	p.Wrong = 2
	return p
}

// contradictory is a paper for which no truth is possible.
func contradictory() api.Paper {
	p := paperP()
	p.Wrong = 0
	return p
}

// graded is a paper whose grade is anything from a least to a greatest one, which differ by at most 3.
func graded(least, most int) api.Paper {
	return api.Paper{
		Items:  []api.Item{{Weight: 1, Most: 30}},
		Judges: []api.Judge{{Bias: span(0, most-least), Marks: []int{most}}},
		Grades: []int{1, 2, 3, 4, 5},
	}
}

// fileX is the file X of the chapter's examples.
func fileX() api.File {
	return api.File{
		Papers: []api.Paper{paperP(), paperQ()},
		Term:   100, Grade: 1, Points: 10, Wait: 30,
		Acts: []api.Act{
			exam(1, 50, 0), course(2, 120, 6), course(3, 140, 4), complaint(4, 160, 7), verdict(5, 170, 7, 20),
			course(6, 260, 9), complaint(7, 200, 8), exam(8, 300, 1),
		},
	}
}

// offersX are the offers of the chapter's examples.
func offersX() []api.Offer {
	return []api.Offer{offer(200, 6, 30), offer(210, 5, 25), offer(240, 10, 60)}
}

// file has the papers 0, with the grade 3, and 1, with a grade from 2 to 5, of which 3 is needed, and some acts.
func file(term, points int, acts ...api.Act) api.File {
	return api.File{Papers: []api.Paper{graded(3, 3), graded(2, 5)}, Term: term, Grade: 3, Points: points, Acts: acts}
}

// withActs is a file with other acts.
func withActs(f api.File, l ...api.Act) api.File {
	f.Acts = l
	return f
}

// withMore is a file with some more acts.
func withMore(f api.File, l ...api.Act) api.File {
	f.Acts = slices.Concat(f.Acts, l)
	return f
}

// copied is a file in new memory.
func copied(f api.File) api.File {
	f.Papers, f.Acts = slices.Clone(f.Papers), slices.Clone(f.Acts)
	for i := range f.Papers {
		p := &f.Papers[i]
		p.Items, p.Judges, p.Grades = slices.Clone(p.Items), slices.Clone(p.Judges), slices.Clone(p.Grades)
		for j := range p.Judges {
			p.Judges[j].Marks = slices.Clone(p.Judges[j].Marks)
		}
	}
	return f
}

// changed is a file in new memory with a change.
func changed(f api.File, change func(f *api.File)) api.File {
	f = copied(f)
	change(&f)
	return f
}

func changedX(change func(f *api.File)) api.File { return changed(fileX(), change) }

func sameFile(f, g api.File) bool {
	sameJudge := func(a, b api.Judge) bool {
		return a.Bias == b.Bias && a.Error == b.Error && slices.Equal(a.Marks, b.Marks)
	}
	samePaper := func(p, q api.Paper) bool {
		lists := slices.Equal(p.Items, q.Items) && slices.EqualFunc(p.Judges, q.Judges, sameJudge) && slices.Equal(p.Grades, q.Grades)
		return lists && p.Wrong == q.Wrong
	}
	numbers := f.Term == g.Term && f.Grade == g.Grade && f.Points == g.Points && f.Wait == g.Wait
	return numbers && slices.EqualFunc(f.Papers, g.Papers, samePaper) && slices.Equal(f.Acts, g.Acts)
}

// chance draws the same numbers in each run of the tests.
func chance() *rand.Rand { return rand.New(rand.NewPCG(11, 10)) }

func shuffled[T any](r *rand.Rand, l []T) []T {
	l = slices.Clone(l)
	r.Shuffle(len(l), func(i, j int) { l[i], l[j] = l[j], l[i] })
	return l
}

// drawAct draws an act up to some day, about few complaints.
func drawAct(r *rand.Rand, id, most, papers int) api.Act {
	day := r.IntN(most + 1)
	switch n := r.IntN(10); {
	case n < 2 && papers > 0:
		return exam(id, day, r.IntN(papers))
	case n < 6:
		return course(id, day, r.IntN(8))
	case n < 8:
		return complaint(id, day, r.IntN(4))
	}
	return verdict(id, day, r.IntN(4), r.IntN(1+most/6))
}

// drawFile draws a file whose acts are on the days up to one of some most ones, so close to each other that terms often are renewed, cut and suspended.
func drawFile(r *rand.Rand, acts int) api.File {
	most := []int{12, 40, 150, api.MaxDay}[r.IntN(4)]
	f := api.File{Term: 1 + r.IntN(min(1+most/3, api.MaxTerm)), Grade: r.IntN(4), Points: r.IntN(10), Wait: r.IntN(most)}
	for range 1 + r.IntN(3) {
		least := r.IntN(5)
		f.Papers = append(f.Papers, graded(least, least+r.IntN(2)))
	}
	for _, id := range r.Perm(api.MaxAct + 1)[:r.IntN(acts+1)] {
		f.Acts = append(f.Acts, drawAct(r, id, most, len(f.Papers)))
	}
	if len(f.Acts) > 0 && r.IntN(4) == 0 {
		// as late as can be: terms go on after MaxDay
		for i := range f.Acts {
			f.Acts[i].Day += api.MaxDay - most
		}
	}
	return f
}

// eachFile calls a function for drawn files.
func eachFile(times, acts int, do func(r *rand.Rand, f api.File)) {
	r := chance()
	for range times {
		do(r, drawFile(r, acts))
	}
}

// unused is the first Id from 0 on that no act has.
func unused(l []api.Act) int {
	id := 0
	for slices.ContainsFunc(l, func(x api.Act) bool { return x.Id == id }) {
		id++
	}
	return id
}

// passes reports whether an act is an exam that is passed.
func passes(f api.File, x api.Act) bool {
	if x.Kind != api.Exam {
		return false
	}
	grade, e := exams.Grade(f.Papers[x.Ref])
	return e == api.OK && grade.Low >= f.Grade
}

// examDays reports for each day whether an exam that is passed is on it.
func examDays(f api.File) [api.MaxDay + 1]bool {
	var on [api.MaxDay + 1]bool
	for _, x := range f.Acts {
		on[x.Day] = on[x.Day] || passes(f, x)
	}
	return on
}

// pointsOn are the points of all courses of different acts on some days.
func pointsOn(f api.File, from, to int) int {
	sum := 0
	for i, x := range f.Acts {
		if x.Kind == api.Course && from <= x.Day && x.Day <= to && !slices.Contains(f.Acts[:i], x) {
			sum += x.Size
		}
	}
	return sum
}

// beginnings are, for each day, the first day of its term, or -1: day by day.
func beginnings(f api.File) [api.MaxDay + 1]int {
	var l [api.MaxDay + 1]int
	passed, first := examDays(f), -1
	for day := range l {
		switch {
		case passed[day]:
			first = day
		case first >= 0 && day == first+f.Term && pointsOn(f, first, day-1) >= f.Points:
			first = day
		case first >= 0 && day == first+f.Term:
			first = -1
		}
		l[day] = first
	}
	return l
}

// heldBy reports for each day whether the licence is held, day by day.
func heldBy(f api.File) [api.MaxDay + 1]bool {
	var held [api.MaxDay + 1]bool
	for day, first := range beginnings(f) {
		held[day] = first >= 0
	}
	return held
}

// counts reports whether an act is a verdict that counts.
func counts(f api.File, x api.Act) bool {
	return x.Kind == api.Verdict && slices.ContainsFunc(f.Acts, func(y api.Act) bool {
		return y.Kind == api.Complaint && y.Ref == x.Ref && y.Day <= x.Day
	})
}

// forceBy reports for each day whether the licence is in force, day by day.
func forceBy(f api.File) [api.MaxDay + 1]bool {
	force := heldBy(f)
	for day := range force {
		suspends := func(x api.Act) bool { return counts(f, x) && x.Day <= day && day < x.Day+x.Size }
		force[day] = force[day] && !slices.ContainsFunc(f.Acts, suspends)
	}
	return force
}

// spread reports for each day whether it is in some spans, and whether these are ascending and as few as possible.
func spread(l []api.Span) (in [api.MaxDay + 1]bool, fewest bool) {
	next := 0
	for i, x := range l {
		if x.Low < next || x.High < x.Low || x.High > api.MaxDay || i > 0 && x.Low == next {
			return in, false
		}
		for day := x.Low; day <= x.High; day++ {
			in[day] = true
		}
		next = x.High + 1
	}
	return in, true
}

func heldOf(t *testing.T, f api.File) []api.Span {
	t.Helper()
	l, e := licences.Held(f)
	if e != api.OK {
		t.Fatalf("Held of %v: error %d", f, e)
	}
	return l
}

func forceOf(t *testing.T, f api.File) []api.Span {
	t.Helper()
	l, e := licences.Force(f)
	if e != api.OK {
		t.Fatalf("Force of %v: error %d", f, e)
	}
	return l
}

// heldDays and forceDays report for each day whether the licence is held, or in force, by the functions of the package.
func heldDays(t *testing.T, f api.File) [api.MaxDay + 1]bool {
	t.Helper()
	in, _ := spread(heldOf(t, f))
	return in
}

func forceDays(t *testing.T, f api.File) [api.MaxDay + 1]bool {
	t.Helper()
	in, _ := spread(forceOf(t, f))
	return in
}

func openOf(t *testing.T, f api.File, day int) []int {
	t.Helper()
	l, e := licences.Open(f, day)
	if e != api.OK {
		t.Fatalf("Open of %v on %d: error %d", f, day, e)
	}
	return l
}

func lateOf(t *testing.T, f api.File, day int) []int {
	t.Helper()
	l, e := licences.Late(f, day)
	if e != api.OK {
		t.Fatalf("Late of %v on %d: error %d", f, day, e)
	}
	return l
}

// results are all that the functions return about a file.
type results struct {
	errors        []api.Errno
	merged        api.File
	held, force   []api.Span
	missing, last int
	open, late    []int
	set, price    int
}

func resultsOf(f api.File, more []api.Act, day int, offers []api.Offer, from, until int) results {
	var x results
	e := make([]api.Errno, 8)
	e[0] = licences.Check(f)
	x.merged, e[1] = licences.Merge(f, more)
	x.held, e[2] = licences.Held(f)
	x.force, e[3] = licences.Force(f)
	x.missing, x.last, e[4] = licences.Score(f, day)
	x.open, e[5] = licences.Open(f, day)
	x.late, e[6] = licences.Late(f, day)
	x.set, x.price, e[7] = licences.Plan(f, offers, from, until)
	x.errors = e
	return x
}

func (x results) same(y results) bool {
	lists := slices.Equal(x.errors, y.errors) && slices.Equal(x.held, y.held) && slices.Equal(x.force, y.force) && slices.Equal(x.open, y.open) && slices.Equal(x.late, y.late)
	return lists && sameFile(x.merged, y.merged) && x.missing == y.missing && x.last == y.last && x.set == y.set && x.price == y.price
}

// isZero reports whether the functions with an error return nothing else.
func (x results) isZero() bool {
	zero := []bool{
		true, sameFile(x.merged, api.File{}), len(x.held) == 0, len(x.force) == 0, x.missing == 0 && x.last == 0,
		len(x.open) == 0, len(x.late) == 0, x.set == 0 && x.price == 0,
	}
	for i, e := range x.errors {
		if e != api.OK && !zero[i] {
			return false
		}
	}
	return true
}
