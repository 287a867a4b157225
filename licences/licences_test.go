package licences_test

import (
	"slices"
	"testing"

	"handshape/api"
	"handshape/licences"
)

// TestExamples has the table of the chapter's examples, and the row of package licences in the document's section Examples.
func TestExamples(t *testing.T) {
	x := fileX()
	if l := heldOf(t, x); !slices.Equal(l, days(50, 249)) {
		t.Errorf("Held of X: %v", l)
	}
	if l := forceOf(t, x); !slices.Equal(l, days(50, 169, 190, 249)) {
		t.Errorf("Force of X: %v", l)
	}
	for _, y := range []struct {
		day, points, last int
		want              api.Errno
	}{{149, 0, 149, api.OK}, {150, 10, 249, api.OK}, {250, 0, 0, api.ErrNone}} {
		if points, last, e := licences.Score(x, y.day); points != y.points || last != y.last || e != y.want {
			t.Errorf("Score of X on %d: %d, %d, %d", y.day, points, last, e)
		}
	}
	for day, want := range map[int][]int{165: {7}, 210: {8}} {
		if l := openOf(t, x, day); !slices.Equal(l, want) {
			t.Errorf("Open of X on %d: %v", day, l)
		}
	}
	for day, want := range map[int][]int{230: nil, 231: {8}} {
		if l := lateOf(t, x, day); !slices.Equal(l, want) {
			t.Errorf("Late of X on %d: %v", day, l)
		}
	}
	for _, y := range []struct {
		until, set, price int
		want              api.Errno
	}{{249, 0, 0, api.OK}, {300, 3, 55, api.OK}, {350, 0, 0, api.ErrNone}} {
		if set, price, e := licences.Plan(x, offersX(), 50, y.until); set != y.set || price != y.price || e != y.want {
			t.Errorf("Plan of X from 50 to %d: %d, %d, %d", y.until, set, price, e)
		}
	}
}
