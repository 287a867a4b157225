package teams_test

import (
	"math/rand/v2"
	"slices"
	"testing"

	"handshape/api"
	"handshape/teams"
)

// TestExamples has the table of the chapter's examples, and the row of package teams in the document's section Examples.
func TestExamples(t *testing.T) {
	c := crewC()
	mayJ, _ := teams.May(c, jobJ)
	mayK, _ := teams.May(c, jobK)
	vitalJ, _ := teams.Vital(c, jobJ)
	vitalK, e := teams.Vital(c, jobK)
	chainJ, _ := teams.Chain(c, jobJ, 3)
	chainK, _ := teams.Chain(c, jobK, 4)
	got := [][]int{mayJ, mayK, vitalJ, vitalK, chainJ, chainK}
	want := [][]int{{0, 1}, {0, 1, 2, 3}, {0, 1}, nil, {0, 1, 2}, {0, 2}}
	if e != api.OK || !slices.EqualFunc(got, want, slices.Equal[[]int]) {
		t.Errorf("May, Vital and Chain: %v, %d, want %v", got, e, want)
	}
	var broken []int
	for _, team := range []int{3, 9, 0} {
		set, e := teams.Broken(c, jobJ, team)
		broken = append(broken, set, int(e))
	}
	if !slices.Equal(broken, []int{0, 0, 20, 0, 56, 0}) {
		t.Errorf("Broken: %v", broken)
	}
	if team, fee, e := teams.Team(c, jobJ); team != 3 || fee != 90 || e != api.OK {
		t.Errorf("Team of J: %d, %d, %d", team, fee, e)
	}
	if team, fee, e := teams.Team(c, jobK); team != 8 || fee != 10 || e != api.OK {
		t.Errorf("Team of K: %d, %d, %d", team, fee, e)
	}
	if why, e := teams.Why(c, jobL); why != 33 || e != api.OK {
		t.Errorf("Why of L: %d, %d", why, e)
	}
}

// equalCrew is a crew of people who are all equal but for their fees, each of whom fits a job alone.
func equalCrew(fees ...int) api.Crew {
	c := crewC()
	c.People = nil
	for _, fee := range fees {
		c.People = append(c.People, api.Person{Levels: []int{5, 5, 5}, Fields: 255, Clears: 255, Deaf: true, Fee: fee})
	}
	return c
}

// P3.4
func TestTeam(t *testing.T) {
	for i, x := range []struct {
		c         api.Crew
		j         api.Job
		team, fee int
	}{
		{crewC(), jobJ, 3, 90}, {crewC(), jobK, 8, 10}, {crewC(), sizedJob(2), 12, 40}, {crewC(), sizedJob(4), 15, 130},
		{changedPerson(func(p *api.Person) { p.Fee = 31 }), jobK, 4, 30}, {changedPerson(func(p *api.Person) { p.Fee = 30 }), jobK, 4, 30},
		{changedPerson(func(p *api.Person) { p.Fee = 0 }), jobK, 8, 0},
		// of several the one with the lowest number
		{equalCrew(5, 5, 5), jobK, 1, 5}, {equalCrew(6, 5, 5), jobK, 2, 5}, {equalCrew(0, 0, 0), sizedJob(2), 3, 0},
		{equalCrew(9, 5, 5, 5), sizedJob(2), 6, 10}, {equalCrew(1, 2, 3, 0), sizedJob(3), 11, 3}, {equalCrew(4, 1, 2, 3, 0), sizedJob(2), 18, 1}, {equalCrew(2, 3, 0, 1), sizedJob(2), 12, 1}, {equalCrew(0, 3, 3, 0, 0), sizedJob(2), 9, 0},
		{equalCrew(2, 1, 2, 1), sizedJob(3), 11, 4},
	} {
		if team, fee, e := teams.Team(x.c, x.j); team != x.team || fee != x.fee || e != api.OK {
			t.Errorf("%d: Team = %d, %d, %d, want %d, %d", i, team, fee, e, x.team, x.fee)
		}
	}
	for i, x := range hopeless() {
		if team, fee, e := teams.Team(x.c, x.j); team != 0 || fee != 0 || e != api.ErrNone {
			t.Errorf("%d: Team = %d, %d, %d", i, team, fee, e)
		}
	}
}

// doubtful is a crew and a job that no team fits, with the fewest rules that say so.
type doubtful struct {
	c   api.Crew
	j   api.Job
	why int
}

// hopeless has crews and jobs that no team fits.
func hopeless() []doubtful {
	some := func(c api.Crew, change func(c *api.Crew)) api.Crew {
		change(&c)
		return c
	}
	two := func(p, q func(p *api.Person)) api.Crew {
		return some(equalCrew(1, 1), func(c *api.Crew) { p(&c.People[0]); q(&c.People[1]) })
	}
	tied := func(p *api.Person) { p.Ties = []int{3} }
	outside := func(p *api.Person) { p.Fields = 2 }
	barred := func(p *api.Person) { p.Clears = 2 }
	hearing := func(p *api.Person) { p.Deaf = false }
	mute := func(p *api.Person) { p.Levels = []int{5, 5, 0} }
	same := func(*api.Person) {}
	deaf := func(c api.Crew) api.Crew { return some(c, func(c *api.Crew) { c.Laws[0].Deaf = true }) }
	return []doubtful{
		{crewC(), jobL, 33},
		// one rule alone
		{two(tied, tied), jobK, 1}, {two(outside, outside), jobK, 2}, {two(barred, barred), jobK, 4}, {two(same, same), sizedJob(3), 8}, {deaf(two(hearing, hearing)), jobK, 16}, {two(mute, mute), jobK, 32},
		// of several the one with the lowest number
		{two(mute, mute), sizedJob(3), 8}, {deaf(two(barred, barred)), sizedJob(3), 4}, {two(func(p *api.Person) { tied(p); outside(p) }, func(p *api.Person) { tied(p); outside(p) }), jobK, 1},
		// two rules
		{two(tied, same), sizedJob(2), 9}, {two(outside, same), sizedJob(2), 10}, {two(barred, same), sizedJob(2), 12}, {two(tied, outside), jobK, 3}, {two(tied, barred), jobK, 5}, {two(outside, barred), jobK, 6},
		{two(tied, mute), jobK, 33}, {two(outside, mute), jobK, 34}, {two(barred, mute), jobK, 36}, {deaf(two(mute, func(p *api.Person) { hearing(p); tied(p) })), jobK, 33}, {deaf(two(hearing, tied)), jobK, 17},
		// three rules: the one who joins the languages is not deaf, and just one is asked for
		{deaf(two(mute, hearing)), jobK, 56}, {two(tied, outside), sizedJob(2), 3}, {some(equalCrew(1, 1, 1), func(c *api.Crew) { tied(&c.People[0]); outside(&c.People[1]); barred(&c.People[2]) }), jobK, 7},
		// nobody at all: there is no team with a member, whatever the rules are
		{equalCrew(), jobK, 0},
	}
}

// P3.5
func TestWhy(t *testing.T) {
	for i, x := range hopeless() {
		if why, e := teams.Why(x.c, x.j); why != x.why || e != api.OK {
			t.Errorf("%d: Why = %d, %d, want %d", i, why, e, x.why)
		}
	}
	for i, x := range []struct {
		c api.Crew
		j api.Job
	}{{crewC(), jobJ}, {crewC(), jobK}, {crewC(), sizedJob(4)}, {equalCrew(5), jobK}} {
		if why, e := teams.Why(x.c, x.j); why != 0 || e != api.ErrNone {
			t.Errorf("%d: Why = %d, %d", i, why, e)
		}
	}
}

// P3.6
func TestVital(t *testing.T) {
	// only 2 and 3 have both 0 and 2
	twoOfFour := changedCrew(func(c *api.Crew) { c.People[1].Levels = []int{0, 1, 0} })
	for i, x := range []struct {
		c    api.Crew
		j    api.Job
		want []int
	}{
		{crewC(), jobJ, []int{0, 1}}, {crewC(), jobK, nil}, {crewC(), sizedJob(4), []int{0, 1, 2, 3}}, {crewC(), sizedJob(2), nil},
		{twoOfFour, jobK, nil}, {without(twoOfFour, 2), jobK, []int{2}}, {without(twoOfFour, 3), jobK, []int{2}}, {without(twoOfFour, 3), sizedJob(2), []int{2}},
		{equalCrew(1), jobK, []int{0}}, {equalCrew(1, 2), jobK, nil}, {equalCrew(1, 2), sizedJob(2), []int{0, 1}}, {equalCrew(1, 2, 3), sizedJob(2), nil},
	} {
		if got, e := teams.Vital(x.c, x.j); e != api.OK || !slices.Equal(got, x.want) {
			t.Errorf("%d: Vital = %v, %d, want %v", i, got, e, x.want)
		}
	}
	for i, x := range hopeless() {
		if got, e := teams.Vital(x.c, x.j); e != api.ErrNone || len(got) > 0 {
			t.Errorf("%d: Vital = %v, %d", i, got, e)
		}
	}
}

// wantTeam is the team with the least fee that fits, the lowest one of several, or 0.
func wantTeam(c api.Crew, broken map[int]int) int {
	best := 0
	for team := 1; team < 1<<len(c.People); team++ {
		if broken[team] == 0 && (best == 0 || feeOf(c, team) < feeOf(c, best)) {
			best = team
		}
	}
	return best
}

// wantWhy goes through the sets of rules from the smallest ones on.
func wantWhy(broken map[int]int) int {
	for n := range 7 {
		for rules := range 64 {
			if sizeOf(rules) == n && !someKeeps(broken, rules) {
				return rules
			}
		}
	}
	return -1
}

// P3.4, P3.5, P3.8, P3.9: either a team, which nobody breaks a rule in and no other is cheaper than, or rules that no team keeps.
func TestTeamOrProof(t *testing.T) {
	sizes, found := map[int]int{}, 0
	eachTask(1500, func(_ *rand.Rand, c api.Crew, j api.Job) {
		broken := brokenBy(c, j)
		team, fee, e := teams.Team(c, j)
		why, f := teams.Why(c, j)
		if want := wantTeam(c, broken); want > 0 {
			found++
			if team != want || fee != feeOf(c, want) || e != api.OK || why != 0 || f != api.ErrNone {
				t.Errorf("Team of %v and %v = %d, %d, %d, want %d; Why = %d, %d", c, j, team, fee, e, want, why, f)
			}
			for i, p := range c.People {
				if isIn(team, i) && keptAlone(p, j) != [3]bool{true, true, true} {
					t.Errorf("Team of %v and %v = %d, in which %d must not be", c, j, team, i)
				}
			}
			return
		}
		sizes[sizeOf(why)]++
		if team != 0 || fee != 0 || e != api.ErrNone || why != wantWhy(broken) || f != api.OK || someKeeps(broken, why) {
			t.Errorf("Why of %v and %v = %d, %d, want %d; Team = %d, %d, %d", c, j, why, f, wantWhy(broken), team, fee, e)
		}
		for rule := range 6 {
			if isIn(why, rule) && !someKeeps(broken, why-1<<rule) {
				t.Errorf("Why of %v and %v = %d, but the rule %d is not needed", c, j, why, rule)
			}
		}
	})
	if found < 300 || sizes[1] < 50 || sizes[2] < 50 || sizes[3] < 10 {
		t.Errorf("the drawn jobs have %d teams, and %v rules", found, sizes)
	}
}

// better draws a change of somebody for the better: one tie less, one field or clearance more, or a higher level.
func better(r *rand.Rand, p *api.Person) {
	switch r.IntN(4) {
	case 0:
		if len(p.Ties) > 0 {
			i := r.IntN(len(p.Ties))
			p.Ties = slices.Delete(p.Ties, i, i+1)
		}
	case 1:
		p.Fields |= 1 << r.IntN(8)
	case 2:
		p.Clears |= 1 << r.IntN(8)
	default:
		i := r.IntN(len(p.Levels))
		p.Levels[i] = min(p.Levels[i]+1+r.IntN(3), api.MaxLevel)
	}
}

// P3.10
func TestMoreIsNotWorse(t *testing.T) {
	gained, cheaper := 0, 0
	check := func(c, more api.Crew, j api.Job) {
		fee, ok := leastFee(t, c, j)
		after, okAfter := leastFee(t, more, j)
		if ok && (!okAfter || after > fee) {
			t.Errorf("%v: the team of %v costs %d, that of %v %d, %v", j, c, fee, more, after, okAfter)
		}
		if !ok && okAfter {
			gained++
		}
		if ok && after < fee {
			cheaper++
		}
	}
	eachTask(1500, func(r *rand.Rand, c api.Crew, j api.Job) {
		check(c, with(c, drawPerson(r, c.Languages)), j)
		if len(c.People) > 0 {
			more := copiedCrew(c)
			better(r, &more.People[r.IntN(len(c.People))])
			check(c, more, j)
		}
	})
	if gained < 50 || cheaper < 50 {
		t.Errorf("the drawn changes lead to %d teams, and to %d cheaper ones", gained, cheaper)
	}
}

// P3.6, P3.11
func TestWithoutSomebody(t *testing.T) {
	needed, others := 0, 0
	eachTask(1500, func(_ *rand.Rand, c api.Crew, j api.Job) {
		vital, e := teams.Vital(c, j)
		_, ok := leastFee(t, c, j)
		if !ok {
			if e != api.ErrNone || len(vital) > 0 {
				t.Errorf("Vital of %v and %v = %v, %d", c, j, vital, e)
			}
			return
		}
		if e != api.OK || !slices.IsSorted(vital) {
			t.Errorf("Vital of %v and %v = %v, %d", c, j, vital, e)
		}
		for i := range c.People {
			if _, fits := leastFee(t, without(c, i), j); fits == slices.Contains(vital, i) {
				t.Errorf("Vital of %v and %v = %v, but without %d: %v", c, j, vital, i, fits)
			}
		}
		needed += len(vital)
		others += len(c.People) - len(vital)
	})
	if needed < 100 || others < 100 {
		t.Errorf("the drawn people are vital %d times, and not %d times", needed, others)
	}
}
