package exams

import (
	"slices"

	"handshape/api"
)

// survey is a paper that has been checked, to go through all its possible truths.
type survey struct{ api.Paper }

// read returns ErrPaper, or the survey of a paper.
func read(p api.Paper) (survey, api.Errno) {
	if !validPaper(p) {
		return survey{}, api.ErrPaper
	}
	return survey{p}, api.OK
}

// readNumber returns the first error of a paper, of a number that is to be from 0 to most, and of a paper for which no truth is possible, or the survey of the paper.
func readNumber(p api.Paper, n, most int) (survey, api.Errno) {
	s, e := read(p)
	if e != api.OK {
		return survey{}, e
	}
	if !within(n, 0, most) {
		return survey{}, api.ErrArg
	}
	if !s.isPossible() {
		return survey{}, api.ErrNone
	}
	return s, api.OK
}

// readPossible returns the first error of a paper, also if no truth is possible, or the survey of the paper.
func readPossible(p api.Paper) (survey, api.Errno) { return readNumber(p, 0, 0) }

func within(n, low, high int) bool { return low <= n && n <= high }

// allOf reports whether a slice has from least to most elements, and all of them are valid.
func allOf[T any](l []T, least, most int, valid func(T) bool) bool {
	return within(len(l), least, most) && !slices.ContainsFunc(l, func(x T) bool { return !valid(x) })
}

func validPaper(p api.Paper) bool {
	validJudge := func(j api.Judge) bool {
		bias := -api.MaxBias <= j.Bias.Low && j.Bias.Low <= j.Bias.High && j.Bias.High <= api.MaxBias
		return bias && within(j.Error, 0, api.MaxError) && allOf(j.Marks, len(p.Items), len(p.Items), validMark)
	}
	lists := allOf(p.Items, 1, api.MaxItems, validItem) && allOf(p.Judges, 0, api.MaxJudges, validJudge)
	return lists && within(p.Wrong, 0, api.MaxUnfair) && allOf(p.Grades, 0, api.MaxLimits, validLimit) && ascend(p.Grades)
}

func validItem(x api.Item) bool {
	return within(x.Weight, 0, api.MaxWeigh) && within(x.Most, 0, api.MaxPoints)
}

// unmarked is the mark of a judge who did not mark an item.
const unmarked = -1

func validMark(mark int) bool { return within(mark, unmarked, api.MaxMark) }

func validLimit(n int) bool { return within(n, 0, api.MaxResult) }

// ascend reports whether numbers are in strictly ascending order.
func ascend(l []int) bool {
	for i := 1; i < len(l); i++ {
		if l[i-1] >= l[i] {
			return false
		}
	}
	return true
}
