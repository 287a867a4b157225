package teams

import (
	"iter"
	"math/bits"
	"slices"

	"handshape/api"
)

// task is a crew and a job that have been checked, the law of the job's kind, and for each person the set of the rules for one member that the person breaks.
type task struct {
	api.Crew
	api.Job
	api.Law
	breaks []int
}

// read returns the first error of a crew and a job, or the task that they are.
func read(c api.Crew, j api.Job) (task, api.Errno) {
	if !validCrew(c) {
		return task{}, api.ErrCrew
	}
	if !validJob(c, j) {
		return task{}, api.ErrJob
	}
	return task{c, j, c.Laws[j.Kind], breaches(c, j)}, api.OK
}

// readTeam returns the first error of a crew, a job and a team, or the task of the crew and the job.
func readTeam(c api.Crew, j api.Job, team int) (task, api.Errno) {
	t, e := read(c, j)
	if e != api.OK {
		return task{}, e
	}
	if !within(team, 0, 1<<len(t.People)-1) {
		return task{}, api.ErrArg
	}
	return t, api.OK
}

func within(n, low, high int) bool { return low <= n && n <= high }

// allOf reports whether a slice has from least to most elements, and all of them are valid.
func allOf[T any](l []T, least, most int, valid func(T) bool) bool {
	return within(len(l), least, most) && !slices.ContainsFunc(l, func(x T) bool { return !valid(x) })
}

func validCrew(c api.Crew) bool {
	validPerson := func(p api.Person) bool {
		levels := allOf(p.Levels, c.Languages, c.Languages, validLevel)
		sets := within(p.Fields, 0, api.MaxSet) && within(p.Clears, 0, api.MaxSet)
		return levels && sets && allOf(p.Ties, 0, api.MaxTies, validClient) && within(p.Fee, 0, api.MaxFee)
	}
	people := within(c.Languages, 2, api.MaxLanguages) && allOf(c.People, 0, api.MaxPeople, validPerson)
	return people && allOf(c.Laws, api.MaxKinds, api.MaxKinds, validLaw)
}

func validLevel(n int) bool { return within(n, 0, api.MaxLevel) }

func validClient(n int) bool { return within(n, 0, api.MaxClient) }

func validSize(n int) bool { return within(n, 1, api.MaxPeople) }

func validLaw(l api.Law) bool { return within(l.Level, 1, api.MaxLevel) && validSize(l.Size) }

// fields is how many fields a set of fields can have.
const fields = 8

// validJob reports whether a job is valid for a valid crew.
func validJob(c api.Crew, j api.Job) bool {
	languages := within(j.From, 0, c.Languages-1) && within(j.To, 0, c.Languages-1) && j.From != j.To
	place := within(j.Field, 0, fields-1) && within(j.Kind, 0, api.MaxKinds-1)
	return languages && place && validClient(j.Client) && validSize(j.Size)
}

func has(set, element int) bool { return set>>element&1 == 1 }

func count(set int) int { return bits.OnesCount(uint(set)) }

// teams yields all teams with some member, in ascending order.
func (t task) teams(yield func(team int) bool) {
	for team := 1; team < 1<<len(t.People); team++ {
		if !yield(team) {
			return
		}
	}
}

// fitting yields all teams that fit, in ascending order.
func (t task) fitting(yield func(team int) bool) {
	for team := range t.teams {
		if t.broken(team) == 0 && !yield(team) {
			return
		}
	}
}

// members yields the members of a team with their numbers, in ascending order.
func (t task) members(team int) iter.Seq2[int, api.Person] {
	return func(yield func(int, api.Person) bool) {
		for i, p := range t.People {
			if has(team, i) && !yield(i, p) {
				return
			}
		}
	}
}

func (t task) fee(team int) int {
	fee := 0
	for _, p := range t.members(team) {
		fee += p.Fee
	}
	return fee
}
