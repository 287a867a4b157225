package licences

import (
	"cmp"
	"slices"

	"handshape/api"
	"handshape/exams"
)

// licence is a file that has been checked, with its acts, each once, and by days: whether an exam that is passed is on a day, and the points of its courses.
type licence struct {
	api.File
	exams   calendar[bool]
	courses calendar[int]
}

// read returns the first error of a file, or its licence.
func read(f api.File) (*licence, api.Errno) {
	if !validNumbers(f) || !validActs(f.Acts, len(f.Papers)) {
		return nil, api.ErrFile
	}
	passed, ok := passing(f.Papers, f.Grade)
	if !ok {
		return nil, api.ErrFile
	}
	acts, clash := gather(f.Acts)
	if clash {
		return nil, api.ErrActs
	}
	f.Acts = acts
	return entered(f, passed), api.OK
}

// entered returns the licence of a file without errors, in which the exams of some papers are passed.
func entered(f api.File, passed []bool) *licence {
	l := &licence{File: f}
	for _, x := range f.Acts {
		switch x.Kind {
		case api.Exam:
			l.exams[x.Day] = l.exams[x.Day] || passed[x.Ref]
		case api.Course:
			l.courses[x.Day] += x.Size
		}
	}
	return l
}

// readDay returns the first error of a file and a day, or the licence of the file.
func readDay(f api.File, day int) (*licence, api.Errno) {
	l, e := read(f)
	if e != api.OK {
		return nil, e
	}
	if !isDay(day) {
		return nil, api.ErrArg
	}
	return l, api.OK
}

func within(n, low, high int) bool { return low <= n && n <= high }

func isDay(n int) bool { return within(n, 0, api.MaxDay) }

// allOf reports whether a slice has at most so many elements, and all of them are valid.
func allOf[T any](l []T, most int, valid func(T) bool) bool {
	return len(l) <= most && !slices.ContainsFunc(l, func(x T) bool { return !valid(x) })
}

// validNumbers reports whether a file is valid but for its papers and acts, and has not too many papers.
func validNumbers(f api.File) bool {
	terms := within(f.Term, 1, api.MaxTerm) && within(f.Grade, 0, api.MaxLimits) && within(f.Points, 0, api.MaxScore)
	return terms && within(f.Wait, 0, api.MaxDay) && len(f.Papers) <= api.MaxPapers
}

// validActs reports whether acts are valid in a file with so many papers.
func validActs(l []api.Act, papers int) bool {
	validAct := func(x api.Act) bool {
		refs, sizes, known := bounds(x.Kind, papers)
		return known && within(x.Id, 0, api.MaxAct) && isDay(x.Day) && within(x.Ref, 0, refs) && within(x.Size, 0, sizes)
	}
	return allOf(l, api.MaxActs, validAct)
}

// bounds returns the greatest Ref and the greatest Size that an act of a kind can have in a file with so many papers, and whether there is this kind.
func bounds(kind, papers int) (refs, sizes int, known bool) {
	switch kind {
	case api.Exam:
		return papers - 1, 0, true
	case api.Course:
		return 0, api.MaxScore, true
	case api.Complaint:
		return api.MaxComplaint, 0, true
	case api.Verdict:
		return api.MaxComplaint, api.MaxTerm, true
	}
	return 0, 0, false
}

func validOffer(x api.Offer) bool {
	return isDay(x.Day) && within(x.Points, 0, api.MaxScore) && within(x.Price, 0, api.MaxPrice)
}

// passing returns for each paper whether its exam is passed, and whether all papers have grades.
func passing(papers []api.Paper, least int) (passed []bool, ok bool) {
	for _, p := range papers {
		grade, e := exams.Grade(p)
		if e != api.OK {
			return nil, false
		}
		passed = append(passed, grade.Low >= least)
	}
	return passed, true
}

// gather returns all different acts, ordered by Id, and whether some of them clash.
func gather(l []api.Act) (all []api.Act, clash bool) {
	all = slices.SortedFunc(slices.Values(l), func(x, y api.Act) int {
		return cmp.Or(cmp.Compare(x.Id, y.Id), cmp.Compare(x.Day, y.Day), cmp.Compare(x.Kind, y.Kind), cmp.Compare(x.Ref, y.Ref), cmp.Compare(x.Size, y.Size))
	})
	all = slices.Compact(all)
	for i := 1; i < len(all); i++ {
		clash = clash || all[i-1].Id == all[i].Id
	}
	return all, clash
}

// copied returns a file in new memory.
func copied(f api.File) api.File {
	f.Papers = slices.Clone(f.Papers)
	for i := range f.Papers {
		p := &f.Papers[i]
		p.Items, p.Judges, p.Grades = slices.Clone(p.Items), slices.Clone(p.Judges), slices.Clone(p.Grades)
		for j := range p.Judges {
			p.Judges[j].Marks = slices.Clone(p.Judges[j].Marks)
		}
	}
	f.Acts = slices.Clone(f.Acts)
	return f
}
