package exams_test

import (
	"math/rand/v2"
	"testing"

	"handshape/api"
	"handshape/exams"
	"handshape/teams"
)

// drawLevel draws an exam in a language, and returns the least grade that it leaves possible and the true one, which is at least this.
func drawLevel(t *testing.T, r *rand.Rand) (least, level int) {
	t.Helper()
	p, truth := drawPaper(r, 1+r.IntN(2), 20, 2)
	for i := range p.Items {
		p.Items[i].Weight++
	}
	most := 0
	for _, x := range p.Items {
		most += x.Weight * x.Most
	}
	// most people are good at most languages
	p.Grades = []int{0, most/10 + 1, most/9 + 2, most/8 + 3, most/2 + 4}
	return gradesOf(t, p).Low, gradeOf(p, truth)
}

// drawCrews draws a crew whose levels are the least ones that their exams leave possible, and the same crew with its true levels.
func drawCrews(t *testing.T, r *rand.Rand) (sure, actual api.Crew) {
	t.Helper()
	sure.Languages = 2 + r.IntN(3)
	for range api.MaxKinds {
		sure.Laws = append(sure.Laws, api.Law{Level: 1 + r.IntN(4), Size: 1 + r.IntN(3), Deaf: r.IntN(3) == 0})
	}
	actual = sure
	for range 2 + r.IntN(4) {
		a := api.Person{Fields: 255, Clears: 15, Deaf: r.IntN(2) == 0, Fee: r.IntN(20)}
		b := a
		for range sure.Languages {
			least, level := drawLevel(t, r)
			a.Levels, b.Levels = append(a.Levels, least), append(b.Levels, level)
		}
		sure.People, actual.People = append(sure.People, a), append(actual.People, b)
	}
	return sure, actual
}

// P0.7
func TestSureLevels(t *testing.T) {
	r := chance()
	found, better := 0, 0
	for range 300 {
		sure, actual := drawCrews(t, r)
		for kind := range api.MaxKinds {
			job := api.Job{From: 0, To: 1, Kind: kind, Size: 1 + r.IntN(2)}
			team, _, e := teams.Team(sure, job)
			if e == api.ErrNone {
				continue
			}
			broken, f := teams.Broken(actual, job, team)
			if e != api.OK || f != api.OK || broken != 0 {
				t.Errorf("the team %d of %v and %v, error %d, breaks %d with the levels of %v, error %d", team, sure, job, e, broken, actual, f)
			}
			found++
			for i, p := range actual.People {
				if team/(1<<i)%2 == 1 && p.Levels[0] > sure.People[i].Levels[0] {
					better++
				}
			}
		}
	}
	if found < 200 || better < 100 {
		t.Errorf("%d teams are found, %d members are better than sure", found, better)
	}
}

// P0.7: whatever the true grades are: each possible truth of an exam leads to a level that is at least the one that was sure.
func TestLevelsOfAllTruths(t *testing.T) {
	law, open := api.Law{Size: 1}, 0
	eachSmall(500, func(r *rand.Rand, p api.Paper) {
		grades, e := exams.Grade(p)
		if e == api.ErrNone || grades.Low == 0 {
			return
		}
		law.Level = grades.Low
		crew := api.Crew{Languages: 2, Laws: []api.Law{law, law, law, law}, People: []api.Person{{Levels: []int{5, grades.Low}, Fields: 1, Clears: 1}}}
		job := api.Job{From: 0, To: 1, Size: 1}
		team, _, f := teams.Team(crew, job)
		if e != api.OK || f != api.OK || team != 1 {
			t.Fatalf("Grade of %v = %v, %d; Team %d, %d", p, grades, e, team, f)
		}
		if grades.Low < grades.High {
			open++
		}
		for _, points := range possibleTruths(p) {
			crew.People[0].Levels[1] = gradeOf(p, points)
			if broken, e := teams.Broken(crew, job, team); broken != 0 || e != api.OK {
				t.Errorf("with the truth %v of %v the team breaks %d, error %d", points, p, broken, e)
			}
		}
	})
	if open < 20 {
		t.Errorf("%d drawn papers have several grades", open)
	}
}
