package exams_test

import (
	"slices"
	"testing"

	"handshape/api"
	"handshape/exams"
)

// TestExamples has the table of the chapter's examples, and the row of package exams in the document's section Examples.
func TestExamples(t *testing.T) {
	for _, x := range []struct {
		name            string
		p               api.Paper
		results, grades api.Span
		points          []api.Span
		blamed          []int
	}{
		{"P", paperP(), span(25, 28), span(1, 1), []api.Span{span(6, 7), span(13, 14)}, []int{2}},
		{"Q", paperQ(), span(17, 32), span(0, 2), []api.Span{span(2, 8), span(13, 16)}, nil},
	} {
		results, e := exams.Range(x.p)
		grades, f := exams.Grade(x.p)
		points, g := exams.Points(x.p)
		blamed, h := exams.Blame(x.p)
		if results != x.results || e != api.OK || grades != x.grades || f != api.OK {
			t.Errorf("Range of %s: %v, %d; Grade: %v, %d", x.name, results, e, grades, f)
		}
		if !slices.Equal(points, x.points) || g != api.OK || !slices.Equal(blamed, x.blamed) || h != api.OK {
			t.Errorf("Points of %s: %v, %d; Blame: %v, %d", x.name, points, g, blamed, h)
		}
	}
	if n, e := exams.Fewest(paperP()); n != 1 || e != api.OK {
		t.Errorf("Fewest of P: %d, %d", n, e)
	}
	for err, want := range map[int]int{0: 0, 1: 3} {
		if item, width, e := exams.Next(paperP(), err); item != 0 || width != want || e != api.OK {
			t.Errorf("Next of P with the error %d: %d, %d, %d", err, item, width, e)
		}
	}
	if l, e := exams.Ranks([]api.Paper{paperP(), paperQ()}); !slices.Equal(l, []api.Span{span(1, 2), span(1, 2)}) || e != api.OK {
		t.Errorf("Ranks of P and Q: %v, %d", l, e)
	}
}

// TestExampleOfShow has the row of Show: several truths have the grade.
func TestExampleOfShow(t *testing.T) {
	if q := paperQ(); !isPossible(q, []int{8, 15}) || gradeOf(q, []int{8, 15}) != 2 {
		t.Errorf("8 15 is not a possible truth of Q with the grade 2 by these tests")
	}
	if l, e := exams.Show(paperQ(), 2); !isPossible(paperQ(), l) || gradeOf(paperQ(), l) != 2 || e != api.OK {
		t.Errorf("Show of Q and 2: %v, %d", l, e)
	}
}
