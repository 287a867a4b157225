package teams

import (
	"slices"

	"handshape/api"
)

// The rules for a job, by their numbers.
const (
	untied = iota
	inField
	cleared
	rightSize
	someDeaf
	joined
	rules
)

// alone returns, for each rule for one member, whether a person keeps it.
func alone(j api.Job) map[int]func(p api.Person) bool {
	return map[int]func(p api.Person) bool{
		untied:  func(p api.Person) bool { return !slices.Contains(p.Ties, j.Client) },
		inField: func(p api.Person) bool { return has(p.Fields, j.Field) },
		cleared: func(p api.Person) bool { return has(p.Clears, j.Kind) },
	}
}

// breaches returns, for each person, the set of the rules for one member that the person breaks.
func breaches(c api.Crew, j api.Job) []int {
	sets := make([]int, len(c.People))
	for rule, keeps := range alone(j) {
		for i, p := range c.People {
			if !keeps(p) {
				sets[i] |= 1 << rule
			}
		}
	}
	return sets
}

// broken returns the set of the rules that a team does not keep.
func (t task) broken(team int) int {
	set, deaf := 0, false
	for i, p := range t.members(team) {
		set |= t.breaks[i]
		deaf = deaf || p.Deaf
	}
	if count(team) != max(t.Job.Size, t.Law.Size) {
		set |= 1 << rightSize
	}
	if t.Deaf && !deaf {
		set |= 1 << someDeaf
	}
	if t.chain(team) == nil {
		set |= 1 << joined
	}
	return set
}

// chain returns the first one of the shortest chains by which a team joins the languages of the job, nil if there is none. Chains are found from the shortest one up, and those of one length in ascending order, so that the first chain to a language is the one that counts for it.
func (t task) chain(team int) []int {
	reached := 1 << t.From
	chains := [][]int{{t.From}}
	for len(chains) > 0 {
		chain := chains[0]
		chains = chains[1:]
		last := chain[len(chain)-1]
		if last == t.To {
			return chain
		}
		for next := range t.Languages {
			if has(reached, next) || !t.joins(team, last, next) {
				continue
			}
			reached |= 1 << next
			chains = append(chains, append(slices.Clone(chain), next))
		}
	}
	return nil
}

// joins reports whether some member of a team has the level of the law in both of two languages.
func (t task) joins(team, a, b int) bool {
	for _, p := range t.members(team) {
		if min(p.Levels[a], p.Levels[b]) >= t.Level {
			return true
		}
	}
	return false
}

// counts returns, for each set of rules, how many teams with some member break just these.
func (t task) counts() [1 << rules]int {
	var counts [1 << rules]int
	for team := range t.teams {
		counts[t.broken(team)]++
	}
	return counts
}

// contradiction returns the first one of the smallest sets of rules that no team keeps together, if none keeps all rules.
func contradiction(counts [1 << rules]int) int {
	smallest := 1<<rules - 1
sets:
	for set := range counts {
		for broken, teams := range counts {
			if teams > 0 && broken&set == 0 {
				continue sets
			}
		}
		if count(set) < count(smallest) {
			smallest = set
		}
	}
	return smallest
}
