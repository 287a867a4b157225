package teams_test

import (
	"math"
	"slices"
	"testing"

	"handshape/api"
	"handshape/teams"
)

// invalidPeople has the crew C for each bound of a person, just beyond it.
func invalidPeople() []api.Crew {
	var l []api.Crew
	for _, change := range []func(p *api.Person){
		func(p *api.Person) { p.Levels = nil }, func(p *api.Person) { p.Levels = []int{3, 3} }, func(p *api.Person) { p.Levels = []int{3, 3, 3, 3} },
		func(p *api.Person) { p.Levels[0] = -1 }, func(p *api.Person) { p.Levels[2] = 6 }, func(p *api.Person) { p.Levels[1] = math.MinInt },
		func(p *api.Person) { p.Fields = -1 }, func(p *api.Person) { p.Fields = 256 }, func(p *api.Person) { p.Fields = math.MinInt },
		func(p *api.Person) { p.Clears = -1 }, func(p *api.Person) { p.Clears = 256 }, func(p *api.Person) { p.Clears = math.MaxInt },
		func(p *api.Person) { p.Ties = []int{5, -1} }, func(p *api.Person) { p.Ties = []int{100, 5} }, func(p *api.Person) { p.Ties = make([]int, 11) },
		func(p *api.Person) { p.Fee = -1 }, func(p *api.Person) { p.Fee = 1001 }, func(p *api.Person) { p.Fee = math.MaxInt },
	} {
		l = append(l, changedPerson(change))
	}
	return l
}

// invalidCrews has the crew C for each bound, just beyond it.
func invalidCrews() []api.Crew {
	l := append(invalidPeople(), api.Crew{})
	for _, change := range []func(l *api.Law){
		func(l *api.Law) { l.Level = 0 }, func(l *api.Law) { l.Level = 6 }, func(l *api.Law) { l.Level = math.MinInt },
		func(l *api.Law) { l.Size = 0 }, func(l *api.Law) { l.Size = 9 }, func(l *api.Law) { l.Size = math.MaxInt },
	} {
		l = append(l, changedLaw(change))
	}
	for _, change := range []func(c *api.Crew){
		func(c *api.Crew) { c.Laws = nil }, func(c *api.Crew) { c.Laws = c.Laws[:3] }, func(c *api.Crew) { c.Laws = append(c.Laws, c.Laws[0]) },
		func(c *api.Crew) { c.People = slices.Repeat(c.People[:3], 3) },
		func(c *api.Crew) { c.Languages = 2 }, func(c *api.Crew) { c.Languages = 4 }, func(c *api.Crew) { c.Languages, c.People = math.MaxInt, nil },
		func(c *api.Crew) { c.Languages, c.People = 1, nil }, func(c *api.Crew) { c.Languages, c.People = 6, nil }, func(c *api.Crew) { c.Languages, c.People = -1, nil },
		func(c *api.Crew) { c.Languages, c.People = 1, []api.Person{{Levels: []int{1}}} },
		func(c *api.Crew) { c.Languages, c.People = 6, []api.Person{{Levels: make([]int, 6)}} },
	} {
		l = append(l, changedCrew(change))
	}
	return l
}

// invalidJobs has a job for each bound of the crew C, just beyond it.
func invalidJobs() []api.Job {
	l := []api.Job{{}}
	for _, change := range []func(j *api.Job){
		func(j *api.Job) { j.From = -1 }, func(j *api.Job) { j.From = 3 }, func(j *api.Job) { j.To = -1 }, func(j *api.Job) { j.To = 3 },
		func(j *api.Job) { j.From = 2 }, func(j *api.Job) { j.To = 0 }, func(j *api.Job) { j.From, j.To = math.MinInt, math.MaxInt },
		func(j *api.Job) { j.Client = -1 }, func(j *api.Job) { j.Client = 100 }, func(j *api.Job) { j.Field = -1 }, func(j *api.Job) { j.Field = 8 },
		func(j *api.Job) { j.Kind = -1 }, func(j *api.Job) { j.Kind = 4 }, func(j *api.Job) { j.Size = 0 }, func(j *api.Job) { j.Size = 9 },
		func(j *api.Job) { j.Field = math.MaxInt }, func(j *api.Job) { j.Kind = math.MinInt }, func(j *api.Job) { j.Size = math.MinInt },
	} {
		l = append(l, changedJob(change))
	}
	return l
}

// P3.1
func TestCheck(t *testing.T) {
	full := api.Person{Levels: []int{0, 5, 0, 5, 5}, Fields: 255, Clears: 255, Ties: []int{0, 99, 99, 99, 1, 2, 3, 4, 5, 6}, Deaf: true, Fee: 1000}
	laws := []api.Law{{Level: 1, Size: 1}, {Level: 5, Size: 8, Deaf: true}, {Level: 1, Size: 8}, {Level: 5, Size: 1}}
	large := api.Crew{Languages: 5, People: slices.Repeat([]api.Person{full}, 8), Laws: laws}
	small := api.Crew{Languages: 2, People: []api.Person{{Levels: []int{0, 0}}}, Laws: laws}
	for i, x := range []struct {
		c api.Crew
		j api.Job
	}{
		{crewC(), jobJ}, {crewC(), jobK}, {crewC(), jobL}, {small, api.Job{From: 1, Size: 1}}, {small, api.Job{To: 1, Size: 8}},
		{large, api.Job{From: 4, To: 3, Client: 99, Field: 7, Kind: 3, Size: 8}}, {large, api.Job{To: 4, Size: 1}},
		{api.Crew{Languages: 2, Laws: laws}, api.Job{To: 1, Size: 1}}, {api.Crew{Languages: 5, Laws: laws}, api.Job{From: 4, Size: 1}},
	} {
		if e := teams.Check(x.c, x.j); e != api.OK {
			t.Errorf("%d: Check = %d", i, e)
		}
	}
	for i, j := range invalidJobs() {
		if e := teams.Check(crewC(), j); e != api.ErrJob {
			t.Errorf("%d: Check of %v = %d", i, j, e)
		}
	}
	for i, c := range invalidCrews() {
		for _, j := range append(invalidJobs(), jobJ) {
			if e := teams.Check(c, j); e != api.ErrCrew {
				t.Errorf("%d: Check of %v and %v = %d", i, c, j, e)
			}
		}
	}
}

// teamsBeyond are numbers that are no teams of the crew C.
func teamsBeyond() []int { return []int{-1, 16, 31, math.MinInt, math.MaxInt} }

// isError reports whether the functions return just some error, one by one.
func (x results) isError(want ...api.Errno) bool {
	return slices.Equal(x.errors, want) && len(x.may)+len(x.vital)+len(x.chain) == 0 && x.numbers == [4]int{}
}

// P1, R1, R2: the errors of the crew come before those of the job, then of the team, with zero values.
func TestErrors(t *testing.T) {
	for _, team := range append(teamsBeyond(), 0, 3) {
		for i, c := range invalidCrews() {
			for _, j := range append(invalidJobs(), jobJ) {
				if got := resultsOf(c, j, team); !got.isError(slices.Repeat([]api.Errno{api.ErrCrew}, 7)...) {
					t.Errorf("%d: of %v, %v and %d: %v", i, c, j, team, got)
				}
			}
		}
		for i, j := range invalidJobs() {
			if got := resultsOf(crewC(), j, team); !got.isError(slices.Repeat([]api.Errno{api.ErrJob}, 7)...) {
				t.Errorf("%d: of %v and %d: %v", i, j, team, got)
			}
		}
	}
}

// P1, R1: the error of a team comes before that of a chain that there is not.
func TestErrorsOfTeams(t *testing.T) {
	nobody := changedCrew(func(c *api.Crew) { c.People = nil })
	for _, team := range teamsBeyond() {
		for _, x := range []struct {
			c api.Crew
			j api.Job
		}{{crewC(), jobJ}, {crewC(), jobL}, {nobody, jobJ}} {
			if n, e := teams.Broken(x.c, x.j, team); n != 0 || e != api.ErrArg {
				t.Errorf("Broken of %d = %d, %d", team, n, e)
			}
			if l, e := teams.Chain(x.c, x.j, team); len(l) > 0 || e != api.ErrArg {
				t.Errorf("Chain of %d = %v, %d", team, l, e)
			}
		}
	}
	if n, e := teams.Broken(nobody, jobJ, 1); n != 0 || e != api.ErrArg {
		t.Errorf("Broken of a team of nobody = %d, %d", n, e)
	}
	if got := resultsOf(nobody, jobJ, 0); got.numbers != [4]int{56, 0, 0, 0} || !slices.Equal(got.errors, []api.Errno{0, 0, 0, api.ErrNone, 0, api.ErrNone, api.ErrNone}) {
		t.Errorf("of nobody: %v", got)
	}
	for _, team := range []int{0, 1, 14, 15} {
		if _, e := teams.Broken(crewC(), jobJ, team); e != api.OK {
			t.Errorf("Broken of %d: error %d", team, e)
		}
	}
}

// P1: extreme numbers and long slices lead to an error or to a result, never to a panic.
func TestAnyArguments(t *testing.T) {
	r := chance()
	number := func() int {
		return []int{math.MinInt, math.MinInt + 1, -1, 0, 0, 1, 1, 2, 2, 3, 4, 5, 7, 8, 63, 64, 255, 1 << 40, math.MaxInt - 1, math.MaxInt}[r.IntN(20)]
	}
	list := func() []int {
		var l []int
		for range r.IntN(6) {
			l = append(l, number())
		}
		return l
	}
	for range 5000 {
		p := api.Person{Levels: list(), Fields: number(), Clears: number(), Ties: list(), Deaf: r.IntN(2) == 0, Fee: number()}
		law := api.Law{Level: number(), Size: number()}
		j := api.Job{From: number(), To: number(), Client: number(), Field: number(), Kind: number(), Size: number()}
		c := api.Crew{Languages: number(), People: slices.Repeat([]api.Person{p}, r.IntN(10)), Laws: slices.Repeat([]api.Law{law}, r.IntN(6))}
		d := crewC()
		d.People[r.IntN(4)] = p
		for _, crew := range []api.Crew{{}, c, d, {Languages: number(), Laws: crewC().Laws}, crewC()} {
			resultsOf(crew, j, number())
			resultsOf(crew, jobJ, number())
		}
	}
}

// P1: the largest crews with the largest teams.
func TestLargest(t *testing.T) {
	p := api.Person{Levels: []int{5, 5, 5, 5, 5}, Fields: 255, Clears: 255, Ties: []int{0, 1, 2, 3, 4, 5, 6, 7, 8, 9}, Deaf: true, Fee: 1000}
	c := api.Crew{Languages: 5, People: slices.Repeat([]api.Person{p}, 8), Laws: slices.Repeat([]api.Law{{Level: 5, Size: 8, Deaf: true}}, 4)}
	everybody := []int{0, 1, 2, 3, 4, 5, 6, 7}
	got := resultsOf(c, api.Job{From: 4, To: 0, Client: 99, Field: 7, Kind: 3, Size: 1}, 255)
	if got.numbers != [4]int{0, 255, 8000, 0} || !slices.Equal(got.may, everybody) || !slices.Equal(got.vital, everybody) || !slices.Equal(got.chain, []int{4, 0}) {
		t.Errorf("%v", got)
	}
}

// R4: the arguments stay as they are, and the results share no memory with them.
func TestArgumentsStay(t *testing.T) {
	c := crewC()
	for _, j := range []api.Job{jobJ, jobK, jobL} {
		x := resultsOf(c, j, 15)
		for _, l := range [][]int{x.may, x.vital, x.chain} {
			for i := range l {
				l[i] = 99
			}
		}
		if !sameCrew(c, crewC()) {
			t.Fatalf("the crew is changed: %v", c)
		}
	}
}
