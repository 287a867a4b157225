package teams_test

import (
	"math/rand/v2"
	"slices"
	"testing"

	"handshape/api"
	"handshape/teams"
)

// crewC is the crew C of the chapter's examples.
func crewC() api.Crew {
	return api.Crew{
		Languages: 3,
		People: []api.Person{
			{Levels: []int{5, 4, 0}, Fields: 3, Clears: 15, Fee: 50},
			{Levels: []int{0, 5, 3}, Fields: 3, Clears: 15, Deaf: true, Fee: 40},
			{Levels: []int{4, 0, 4}, Fields: 1, Clears: 3, Ties: []int{7}, Fee: 30},
			{Levels: []int{3, 3, 3}, Fields: 255, Clears: 1, Fee: 10},
		},
		Laws: []api.Law{{Level: 2, Size: 1}, {Level: 4, Size: 2}, {Level: 3, Size: 2, Deaf: true}, {Level: 5, Size: 1}},
	}
}

// The jobs of the chapter's examples.
var (
	jobJ = api.Job{From: 0, To: 2, Client: 7, Field: 1, Kind: 2, Size: 1}
	jobK = api.Job{From: 0, To: 2, Client: 3, Field: 0, Kind: 0, Size: 1}
	jobL = api.Job{From: 0, To: 2, Client: 7, Field: 1, Kind: 1, Size: 1}
)

// changedCrew is the crew C with a change.
func changedCrew(change func(c *api.Crew)) api.Crew {
	c := crewC()
	change(&c)
	return c
}

// changedPerson is the crew C with a change of its last person.
func changedPerson(change func(p *api.Person)) api.Crew {
	return changedCrew(func(c *api.Crew) { change(&c.People[3]) })
}

// changedLaw is the crew C with a change of its last law.
func changedLaw(change func(l *api.Law)) api.Crew {
	return changedCrew(func(c *api.Crew) { change(&c.Laws[3]) })
}

// changedJob is the job J with a change.
func changedJob(change func(j *api.Job)) api.Job {
	j := jobJ
	change(&j)
	return j
}

// sizedJob is the job K for a team of some size.
func sizedJob(size int) api.Job {
	j := jobK
	j.Size = size
	return j
}

// copiedCrew is a crew in new memory.
func copiedCrew(c api.Crew) api.Crew {
	c.People, c.Laws = slices.Clone(c.People), slices.Clone(c.Laws)
	for i := range c.People {
		p := &c.People[i]
		p.Levels, p.Ties = slices.Clone(p.Levels), slices.Clone(p.Ties)
	}
	return c
}

func sameCrew(a, b api.Crew) bool {
	samePerson := func(p, q api.Person) bool {
		lists := slices.Equal(p.Levels, q.Levels) && slices.Equal(p.Ties, q.Ties)
		return lists && p.Fields == q.Fields && p.Clears == q.Clears && p.Deaf == q.Deaf && p.Fee == q.Fee
	}
	return a.Languages == b.Languages && slices.EqualFunc(a.People, b.People, samePerson) && slices.Equal(a.Laws, b.Laws)
}

// without is a crew without one person.
func without(c api.Crew, person int) api.Crew {
	c = copiedCrew(c)
	c.People = slices.Delete(c.People, person, person+1)
	return c
}

// with is a crew with one person more, the last one.
func with(c api.Crew, p api.Person) api.Crew {
	c = copiedCrew(c)
	c.People = append(c.People, p)
	return c
}

// chance draws the same numbers in each run of the tests.
func chance() *rand.Rand { return rand.New(rand.NewPCG(5, 6)) }

// drawPerson draws somebody who keeps most rules, with fees that are often equal.
func drawPerson(r *rand.Rand, languages int) api.Person {
	p := api.Person{Fields: 255, Clears: 15, Fee: r.IntN(5), Deaf: r.IntN(3) == 0}
	for range languages {
		p.Levels = append(p.Levels, r.IntN(api.MaxLevel+1))
	}
	if r.IntN(4) == 0 {
		p.Fields = r.IntN(256)
	}
	if r.IntN(4) == 0 {
		p.Clears = r.IntN(256)
	}
	for range r.IntN(3) {
		p.Ties = append(p.Ties, r.IntN(10))
	}
	return p
}

func drawCrew(r *rand.Rand, people int) api.Crew {
	c := api.Crew{Languages: 2 + r.IntN(4)}
	for range people {
		c.People = append(c.People, drawPerson(r, c.Languages))
	}
	for range api.MaxKinds {
		c.Laws = append(c.Laws, api.Law{Level: 1 + r.IntN(4), Size: 1 + r.IntN(3), Deaf: r.IntN(2) == 0})
	}
	return c
}

func drawJob(r *rand.Rand, c api.Crew) api.Job {
	from := r.IntN(c.Languages)
	to := (from + 1 + r.IntN(c.Languages-1)) % c.Languages
	return api.Job{From: from, To: to, Client: r.IntN(10), Field: r.IntN(8), Kind: r.IntN(4), Size: 1 + r.IntN(4)}
}

// eachTask calls a function for drawn crews and jobs.
func eachTask(times int, do func(r *rand.Rand, c api.Crew, j api.Job)) {
	r := chance()
	for range times {
		c := drawCrew(r, r.IntN(7))
		do(r, c, drawJob(r, c))
	}
}

func isIn(set, element int) bool { return set/(1<<element)%2 == 1 }

// sizeOf is how many elements a set has.
func sizeOf(set int) int {
	n := 0
	for ; set > 0; set /= 2 {
		n += set % 2
	}
	return n
}

// linked reports whether some member has the level of the law in both languages.
func linked(c api.Crew, j api.Job, team, a, b int) bool {
	for i, p := range c.People {
		if isIn(team, i) && p.Levels[a] >= c.Laws[j.Kind].Level && p.Levels[b] >= c.Laws[j.Kind].Level {
			return true
		}
	}
	return false
}

// allChains are all ways without repetition to go on from a chain to the language To.
func allChains(c api.Crew, j api.Job, team int, chain []int) [][]int {
	last := chain[len(chain)-1]
	if last == j.To {
		return [][]int{chain}
	}
	var l [][]int
	for next := range c.Languages {
		if !slices.Contains(chain, next) && linked(c, j, team, last, next) {
			l = append(l, allChains(c, j, team, append(slices.Clone(chain), next))...)
		}
	}
	return l
}

// wantChain is the shortest one of all chains, of several the lowest one, or nil.
func wantChain(c api.Crew, j api.Job, team int) []int {
	var best []int
	for _, chain := range allChains(c, j, team, []int{j.From}) {
		longer := len(chain) > len(best)
		if best == nil || !longer && (len(chain) < len(best) || slices.Compare(chain, best) < 0) {
			best = chain
		}
	}
	return best
}

// keptAlone are whether a person keeps the rules 0, 1 and 2.
func keptAlone(p api.Person, j api.Job) [3]bool {
	return [3]bool{!slices.Contains(p.Ties, j.Client), isIn(p.Fields, j.Field), isIn(p.Clears, j.Kind)}
}

// wantBroken is the set of the rules that a team does not keep, rule by rule.
func wantBroken(c api.Crew, j api.Job, team int) int {
	kept := [6]bool{true, true, true}
	law, deaf := c.Laws[j.Kind], false
	for i, p := range c.People {
		if isIn(team, i) {
			for rule, keeps := range keptAlone(p, j) {
				kept[rule] = kept[rule] && keeps
			}
			deaf = deaf || p.Deaf
		}
	}
	kept[3] = sizeOf(team) == j.Size && j.Size >= law.Size || sizeOf(team) == law.Size && law.Size >= j.Size
	kept[4] = deaf || !law.Deaf
	kept[5] = wantChain(c, j, team) != nil
	set := 0
	for rule, keeps := range kept {
		if !keeps {
			set += 1 << rule
		}
	}
	return set
}

// brokenBy are the sets of the rules that the teams with some member do not keep, by the numbers of the teams.
func brokenBy(c api.Crew, j api.Job) map[int]int {
	sets := map[int]int{}
	for team := 1; team < 1<<len(c.People); team++ {
		sets[team] = wantBroken(c, j, team)
	}
	return sets
}

// someKeeps reports whether some of the teams keeps all rules of a set.
func someKeeps(broken map[int]int, rules int) bool {
	for _, set := range broken {
		if set&rules == 0 {
			return true
		}
	}
	return false
}

func feeOf(c api.Crew, team int) int {
	fee := 0
	for i, p := range c.People {
		if isIn(team, i) {
			fee += p.Fee
		}
	}
	return fee
}

// leastFee is the least fee of all teams that fit, and whether there is one.
func leastFee(t *testing.T, c api.Crew, j api.Job) (int, bool) {
	t.Helper()
	_, fee, e := teams.Team(c, j)
	if e != api.OK && e != api.ErrNone {
		t.Fatalf("Team of %v and %v: error %d", c, j, e)
	}
	return fee, e == api.OK
}

// results are all that the functions return about a crew, a job and a team.
type results struct {
	errors            []api.Errno
	may, vital, chain []int
	numbers           [4]int
}

func resultsOf(c api.Crew, j api.Job, team int) results {
	var x results
	e := make([]api.Errno, 7)
	e[0] = teams.Check(c, j)
	x.may, e[1] = teams.May(c, j)
	x.numbers[0], e[2] = teams.Broken(c, j, team)
	x.numbers[1], x.numbers[2], e[3] = teams.Team(c, j)
	x.numbers[3], e[4] = teams.Why(c, j)
	x.vital, e[5] = teams.Vital(c, j)
	x.chain, e[6] = teams.Chain(c, j, team)
	x.errors = e
	return x
}
