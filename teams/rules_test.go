package teams_test

import (
	"math/rand/v2"
	"slices"
	"testing"

	"handshape/api"
	"handshape/teams"
)

// P3.2
func TestMay(t *testing.T) {
	for i, x := range []struct {
		c    api.Crew
		j    api.Job
		want []int
	}{
		{crewC(), jobJ, []int{0, 1}}, {crewC(), jobK, []int{0, 1, 2, 3}}, {crewC(), jobL, []int{0, 1}},
		{crewC(), changedJob(func(j *api.Job) { j.Kind = 0 }), []int{0, 1, 3}},
		{crewC(), changedJob(func(j *api.Job) { j.Kind, j.Field = 0, 0 }), []int{0, 1, 3}},
		{crewC(), changedJob(func(j *api.Job) { j.Kind, j.Field, j.Client = 1, 0, 8 }), []int{0, 1, 2}},
		{crewC(), changedJob(func(j *api.Job) { j.Kind, j.Field = 0, 7 }), []int{3}},
		{crewC(), changedJob(func(j *api.Job) { j.Kind, j.Field = 3, 7 }), nil},
		{changedPerson(func(p *api.Person) { p.Ties = []int{1, 2, 3, 3} }), jobK, []int{0, 1, 2}},
		{changedPerson(func(p *api.Person) { p.Ties = []int{2, 4} }), jobK, []int{0, 1, 2, 3}},
		{changedPerson(func(p *api.Person) { p.Fields = 254 }), jobK, []int{0, 1, 2}},
		{changedPerson(func(p *api.Person) { p.Clears = 254 }), jobK, []int{0, 1, 2}},
		// neither the levels nor the law make a difference
		{changedPerson(func(p *api.Person) { p.Levels = []int{0, 0, 0} }), sizedJob(8), []int{0, 1, 2, 3}},
		{changedCrew(func(c *api.Crew) { c.People = nil }), jobK, nil},
	} {
		if got, e := teams.May(x.c, x.j); e != api.OK || !slices.Equal(got, x.want) {
			t.Errorf("%d: May = %v, %d, want %v", i, got, e, x.want)
		}
	}
}

// P3.3
func TestBroken(t *testing.T) {
	tied := changedPerson(func(p *api.Person) { p.Ties = []int{3} })
	blank := changedPerson(func(p *api.Person) { p.Fields, p.Clears, p.Ties = 0, 0, []int{3} })
	for i, x := range []struct {
		c          api.Crew
		j          api.Job
		team, want int
	}{
		{crewC(), jobJ, 3, 0}, {crewC(), jobJ, 9, 20}, {crewC(), jobJ, 0, 56}, {crewC(), jobK, 0, 40}, {crewC(), jobK, 8, 0}, {crewC(), jobK, 4, 0},
		// each rule alone
		{tied, jobK, 8, 1}, {changedPerson(func(p *api.Person) { p.Fields = 254 }), jobK, 8, 2}, {changedPerson(func(p *api.Person) { p.Clears = 254 }), jobK, 8, 4},
		{crewC(), jobK, 12, 8}, {crewC(), sizedJob(2), 8, 8}, {crewC(), jobK, 1, 32}, {crewC(), jobL, 3, 32},
		{changedCrew(func(c *api.Crew) { c.People[1].Deaf = false }), jobJ, 3, 16},
		// one member who breaks a rule is enough, somebody outside the team does not count
		{tied, sizedJob(2), 12, 1}, {tied, jobK, 4, 0}, {blank, sizedJob(2), 12, 7}, {blank, jobK, 8, 7}, {crewC(), jobJ, 15, 15}, {crewC(), jobJ, 8, 28},
		// the greater one of two sizes
		{crewC(), sizedJob(2), 12, 0}, {crewC(), sizedJob(3), 13, 0}, {crewC(), sizedJob(8), 15, 8},
		{changedCrew(func(c *api.Crew) { c.Laws[0].Size = 3 }), sizedJob(2), 12, 8}, {changedCrew(func(c *api.Crew) { c.Laws[0].Size = 3 }), sizedJob(2), 13, 0},
		{changedCrew(func(c *api.Crew) { c.Laws[0].Size = 3 }), sizedJob(3), 13, 0}, {changedCrew(func(c *api.Crew) { c.Laws[0].Size = 3 }), sizedJob(4), 13, 8},
		// just the level of the law, or one below it
		{changedCrew(func(c *api.Crew) { c.Laws[0].Level = 3 }), jobK, 8, 0}, {changedCrew(func(c *api.Crew) { c.Laws[0].Level = 4 }), jobK, 8, 32},
		{changedCrew(func(c *api.Crew) { c.Laws[0].Level = 4 }), jobK, 4, 0}, {changedCrew(func(c *api.Crew) { c.Laws[0].Level = 5 }), jobK, 4, 32},
		// two members do not join languages that none of them has both
		{changedCrew(func(c *api.Crew) { c.People[1].Levels[1] = 2; c.People[0].Levels[1] = 0 }), sizedJob(2), 3, 32},
	} {
		if got, e := teams.Broken(x.c, x.j, x.team); e != api.OK || got != x.want {
			t.Errorf("%d: Broken of %d = %d, %d, want %d", i, x.team, got, e, x.want)
		}
	}
}

// P3.2, P3.3: against the rules one by one.
func TestBrokenOfMany(t *testing.T) {
	seen := map[int]bool{}
	eachTask(400, func(_ *rand.Rand, c api.Crew, j api.Job) {
		var people []int
		for i, p := range c.People {
			if keptAlone(p, j) == [3]bool{true, true, true} {
				people = append(people, i)
			}
		}
		if got, e := teams.May(c, j); e != api.OK || !slices.Equal(got, people) {
			t.Errorf("May of %v and %v = %v, %d, want %v", c, j, got, e, people)
		}
		for team := range 1 << len(c.People) {
			want := wantBroken(c, j, team)
			seen[want] = true
			if got, e := teams.Broken(c, j, team); e != api.OK || got != want {
				t.Errorf("Broken of %v, %v and %d = %d, %d, want %d", c, j, team, got, e, want)
			}
		}
	})
	if len(seen) < 60 {
		t.Errorf("the drawn teams break just %d sets of rules", len(seen))
	}
}

// crewOfPairs is a crew of people who each have just two languages, with the level 3 that its laws ask for.
func crewOfPairs(languages int, pairs ...[2]int) api.Crew {
	c := api.Crew{Languages: languages, Laws: slices.Repeat([]api.Law{{Level: 3, Size: 1}}, 4)}
	for _, pair := range pairs {
		p := api.Person{Levels: slices.Repeat([]int{2}, languages), Fields: 255, Clears: 255}
		p.Levels[pair[0]], p.Levels[pair[1]] = 3, 5
		c.People = append(c.People, p)
	}
	return c
}

// P3.7
func TestChain(t *testing.T) {
	job := func(from, to int) api.Job { return api.Job{From: from, To: to, Client: 1, Field: 1, Kind: 1, Size: 1} }
	line := crewOfPairs(5, [2]int{0, 1}, [2]int{1, 2}, [2]int{2, 3}, [2]int{3, 4})
	ring := crewOfPairs(4, [2]int{0, 1}, [2]int{1, 2}, [2]int{2, 3}, [2]int{3, 0})
	// from 0 to 4 there are chains by 2 and 1, by 2 and 3, by 1, and by 1 and 3
	forks := crewOfPairs(5, [2]int{0, 2}, [2]int{2, 1}, [2]int{1, 4}, [2]int{2, 3}, [2]int{3, 4}, [2]int{0, 1}, [2]int{1, 3})
	for i, x := range []struct {
		c    api.Crew
		j    api.Job
		team int
		want []int
	}{
		{crewC(), jobJ, 3, []int{0, 1, 2}}, {crewC(), jobK, 4, []int{0, 2}}, {crewC(), jobK, 15, []int{0, 2}}, {crewC(), jobK, 3, []int{0, 1, 2}},
		{line, job(0, 4), 15, []int{0, 1, 2, 3, 4}}, {line, job(4, 0), 15, []int{4, 3, 2, 1, 0}}, {line, job(3, 1), 15, []int{3, 2, 1}}, {line, job(1, 2), 2, []int{1, 2}},
		{ring, job(0, 2), 15, []int{0, 1, 2}}, {ring, job(2, 0), 15, []int{2, 1, 0}}, {ring, job(0, 2), 12, []int{0, 3, 2}}, {ring, job(0, 3), 15, []int{0, 3}}, {ring, job(0, 3), 7, []int{0, 1, 2, 3}},
		{forks, job(0, 4), 31, []int{0, 2, 1, 4}}, {forks, job(0, 4), 27, []int{0, 2, 3, 4}}, {forks, job(0, 4), 63, []int{0, 1, 4}}, {forks, job(0, 4), 1<<0 | 1<<3 | 1<<4 | 1<<5 | 1<<6, []int{0, 1, 3, 4}},
		// a team need not keep the other rules
		{changedCrew(func(c *api.Crew) { c.People[2].Fields, c.People[2].Clears, c.People[2].Ties = 0, 0, []int{3} }), sizedJob(8), 4, []int{0, 2}},
	} {
		if got, e := teams.Chain(x.c, x.j, x.team); e != api.OK || !slices.Equal(got, x.want) {
			t.Errorf("%d: Chain of %d = %v, %d, want %v", i, x.team, got, e, x.want)
		}
	}
	for i, x := range []struct {
		c    api.Crew
		j    api.Job
		team int
	}{
		{crewC(), jobJ, 0}, {crewC(), jobJ, 1}, {crewC(), jobL, 3}, {crewC(), jobL, 11}, {line, job(0, 4), 0}, {line, job(0, 4), 13}, {line, job(0, 4), 7}, {ring, job(0, 2), 10},
	} {
		if got, e := teams.Chain(x.c, x.j, x.team); e != api.ErrNone || len(got) > 0 {
			t.Errorf("%d: Chain of %d = %v, %d", i, x.team, got, e)
		}
	}
}

// P3.7, P3.12: against all chains, and with one more member.
func TestChainOfMany(t *testing.T) {
	lengths := map[int]int{}
	check := func(r *rand.Rand, c api.Crew, j api.Job) {
		for team := range 1 << len(c.People) {
			want, wantError := wantChain(c, j, team), api.OK
			if want == nil {
				wantError = api.ErrNone
			}
			got, e := teams.Chain(c, j, team)
			if e != wantError || !slices.Equal(got, want) {
				t.Errorf("Chain of %v, %v and %d = %v, %d, want %v", c, j, team, got, e, want)
			}
			for i := 1; i < len(got); i++ {
				if !linked(c, j, team, got[i-1], got[i]) {
					t.Errorf("Chain of %v, %v and %d = %v, but nobody has %d and %d", c, j, team, got, got[i-1], got[i])
				}
			}
			lengths[len(got)]++
			if len(got) == 0 || len(c.People) == 0 {
				continue
			}
			if more, e := teams.Chain(c, j, team|1<<r.IntN(len(c.People))); e != api.OK || len(more) > len(got) {
				t.Errorf("Chain of %v, %v and %d = %v, with one more %v, %d", c, j, team, got, more, e)
			}
		}
	}
	eachTask(200, check)
	r := chance()
	for range 150 {
		var pairs [][2]int
		for range 4 + r.IntN(4) {
			pairs = append(pairs, [2]int{r.IntN(5), r.IntN(5)})
		}
		c := crewOfPairs(5, pairs...)
		check(r, c, drawJob(r, c))
	}
	for _, n := range []int{0, 2, 3, 4, 5} {
		if lengths[n] < 20 {
			t.Errorf("few drawn teams need %d languages: %v", n, lengths)
		}
	}
}
