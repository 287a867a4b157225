package relay_test

import (
	"slices"
	"testing"

	"handshape/api"
	"handshape/relay"
)

// TestExamples has the table of the chapter's examples, and the row of package relay in the document's section Examples.
func TestExamples(t *testing.T) {
	s := studioS()
	if answers, u, o, e := relay.Plan(s); len(answers) != 5 || u != 0 || o != 3 || e != api.OK {
		t.Errorf("Plan: %v, %d, %d, %d", answers, u, o, e)
	}
	if u, o, e := relay.Waits(s, []api.Answer{at(0, 0), at(2, 1), at(1, 0), at(1, 1), at(2, 0)}); u != 0 || o != 3 || e != api.OK {
		t.Errorf("Waits of the chapter's plan: %d, %d, %d", u, o, e)
	}
	if u, o, e := relay.Waits(s, []api.Answer{at(0, 0), at(1, 1), at(1, 0), at(2, 1), never}); u != 1 || o != 5 || e != api.OK {
		t.Errorf("Waits: %d, %d, %d", u, o, e)
	}
	for time, want := range map[int]int{0: 1, 1: 3, 4: 5} {
		if n, e := relay.Most(s, time, false); n != want || e != api.OK {
			t.Errorf("Most up to %d: %d, %d", time, n, e)
		}
	}
	if n, e := relay.Most(s, 1, true); n != 2 || e != api.OK {
		t.Errorf("Most of the emergencies: %d, %d", n, e)
	}
	if spots, calls := coverOf(t, s, 1, false); len(spots)+len(calls) != 3 {
		t.Errorf("Cover: %v, %v", spots, calls)
	}
	if vital, e := relay.Vital(s); !slices.Equal(vital, []int{0, 1}) || e != api.OK {
		t.Errorf("Vital: %v, %d", vital, e)
	}
	for tongue, want := range map[int][]int{0: {0, 2, 3}, 1: {0, 2, 3, 4}, 4: nil} {
		if times, e := relay.Free(s, tongue); !slices.Equal(times, want) || e != api.OK {
			t.Errorf("Free of %d: %v, %d", tongue, times, e)
		}
	}
}
