package rosters_test

import (
	"math/rand/v2"
	"testing"

	"handshape/api"
	"handshape/turns"
)

// membersOf are the members of a team, in ascending order.
func membersOf(team int) []int {
	var l []int
	for person := range api.MaxPeople {
		if isIn(team, person) {
			l = append(l, person)
		}
	}
	return l
}

// part is how many minutes each part of a booking takes: drawn bookings take some parts in full.
const part = 10

// drawTask draws a task for a team that takes turns in a booking.
func drawTask(r *rand.Rand, b api.Booking, team int) api.Task {
	t := api.Task{Limit: 1 + r.IntN(3), Rest: 1 + r.IntN(2), Swap: r.IntN(4)}
	for range membersOf(team) {
		tire, ease := r.IntN(5), r.IntN(5)
		t.Hands = append(t.Hands, api.Hand{Start: span(0, r.IntN(5)), Tire: span(tire, tire+r.IntN(3)), Ease: span(ease, ease+r.IntN(3)), Slip: r.IntN(4)})
	}
	for range (b.End - b.Start) / part {
		t.Parts = append(t.Parts, r.IntN(4))
	}
	return t
}

// longestRow is for how many parts in a row one hand signs at most.
func longestRow(rota []int) int {
	longest, row := 0, 0
	for i, hand := range rota {
		if i > 0 && rota[i-1] != hand {
			row = 0
		}
		row++
		longest = max(longest, row)
	}
	return longest
}

// P0.9
func TestSharedBooking(t *testing.T) {
	shared := 0
	eachDay(1000, func(r *rand.Rand, d api.Day) {
		minutes := make([]int, len(d.Crew.People))
		for booking, team := range teamsOf(t, d) {
			b, members := d.Bookings[booking], membersOf(team)
			task := drawTask(r, b, team)
			rota, _, e := turns.Plan(task)
			if e != api.OK {
				// all of them sign all the time
				for _, person := range members {
					minutes[person] += b.End - b.Start
				}
				continue
			}
			if longestRow(rota) > task.Limit {
				t.Errorf("the turns %v of %v are too long", rota, task)
			}
			for _, hand := range rota {
				minutes[members[hand]] += part
			}
			if len(members) > 1 {
				shared++
			}
		}
		for person, n := range minutes {
			if n > d.Limit {
				t.Errorf("%d signs for %d minutes of %v", person, n, d)
			}
		}
	})
	if shared < 100 {
		t.Errorf("the drawn days have %d bookings with turns of several people", shared)
	}
}
