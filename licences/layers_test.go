package licences_test

import (
	"math/rand/v2"
	"slices"
	"testing"

	"handshape/api"
	"handshape/licences"
	"handshape/teams"
)

// heldFile is somebody's file with the true points of its exams.
type heldFile struct {
	api.File
	truths [][]int
}

// drawHeld draws a file about exams that judges marked with errors, with complaints and verdicts.
func drawHeld(r *rand.Rand) heldFile {
	x := heldFile{File: api.File{Term: 30 + r.IntN(100), Grade: 1 + r.IntN(3), Points: r.IntN(5)}}
	for range 1 + r.IntN(2) {
		p, points := drawJudged(r)
		x.Papers, x.truths = append(x.Papers, p), append(x.truths, points)
	}
	for id := range 10 {
		x.Acts = append(x.Acts, drawAct(r, id, 120, len(x.Papers)))
	}
	return x
}

// hasPassed reports whether there was an exam up to a day whose true grade is enough.
func (x heldFile) hasPassed(day int) bool {
	return slices.ContainsFunc(x.Acts, func(y api.Act) bool {
		return y.Kind == api.Exam && y.Day <= day && trueGrade(x.Papers[y.Ref], x.truths[y.Ref]) >= x.Grade
	})
}

func (x heldFile) isSuspended(day int) bool {
	return slices.ContainsFunc(x.Acts, func(y api.Act) bool { return counts(x.File, y) && y.Day <= day && day < y.Day+y.Size })
}

// drawCrew draws people with all languages and fields, who are not cleared for any kind of places.
func drawCrew(r *rand.Rand, people int) api.Crew {
	c := api.Crew{Languages: 2}
	for range people {
		c.People = append(c.People, api.Person{Levels: []int{3 + r.IntN(3), 3 + r.IntN(3)}, Fields: 255, Deaf: r.IntN(2) == 0, Fee: r.IntN(50)})
	}
	for range api.MaxKinds {
		c.Laws = append(c.Laws, api.Law{Level: 1 + r.IntN(4), Size: 1 + r.IntN(2), Deaf: r.IntN(3) == 0})
	}
	return c
}

// P0.10
func TestLicensedTeam(t *testing.T) {
	r := chance()
	members, suspended, failed := 0, 0, 0
	for range 600 {
		crew, day := drawCrew(r, 2+r.IntN(5)), r.IntN(150)
		var files []heldFile
		for i := range crew.People {
			x := drawHeld(r)
			if force := forceDays(t, x.File); force[day] {
				crew.People[i].Clears = 15
			}
			files = append(files, x)
		}
		for kind := range api.MaxKinds {
			team, _, e := teams.Team(crew, api.Job{From: 0, To: 1, Kind: kind, Size: 1 + r.IntN(2)})
			if e != api.OK && e != api.ErrNone {
				t.Fatalf("Team of %v: error %d", crew, e)
			}
			for i, x := range files {
				if team>>i%2 == 0 {
					continue
				}
				members++
				if !x.hasPassed(day) || x.isSuspended(day) {
					t.Errorf("the member %d of the team %d with %v has not passed an exam up to %d, or is suspended", i, team, x, day)
				}
			}
		}
		for _, x := range files {
			if x.isSuspended(day) && heldDays(t, x.File)[day] {
				suspended++
			}
			if !x.hasPassed(day) {
				failed++
			}
		}
	}
	if members < 500 || suspended < 20 || failed < 200 {
		t.Errorf("%d members of teams are there; of the people %d are suspended, and %d passed no exam", members, suspended, failed)
	}
}

// P0.10: the same people on other days.
func TestLicensedTeamOfX(t *testing.T) {
	law := api.Law{Level: 1, Size: 1}
	person := api.Person{Levels: []int{5, 5}, Fields: 255}
	for day, want := range map[int]api.Errno{49: api.ErrNone, 50: api.OK, 169: api.OK, 170: api.ErrNone, 189: api.ErrNone, 190: api.OK, 249: api.OK, 250: api.ErrNone, 300: api.ErrNone} {
		l, e := licences.Force(fileX())
		person.Clears = 0
		if slices.ContainsFunc(l, func(x api.Span) bool { return x.Low <= day && day <= x.High }) {
			person.Clears = 1
		}
		crew := api.Crew{Languages: 2, People: []api.Person{person}, Laws: []api.Law{law, law, law, law}}
		if team, _, g := teams.Team(crew, api.Job{To: 1, Size: 1}); e != api.OK || g != want || (team == 1) != (want == api.OK) {
			t.Errorf("on the day %d: Force = %v, %d, Team = %d, %d", day, l, e, team, g)
		}
	}
}
