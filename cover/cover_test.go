package cover_test

import (
	"slices"
	"testing"

	"handshape/api"
	"handshape/cover"
)

// TestExamples has the table of the chapter's examples, and the row of package cover in the document's section Examples.
func TestExamples(t *testing.T) {
	q := poolQ()
	if is, e := cover.Safe(q, []int{7, 17}); !is || e != api.OK {
		t.Errorf("Safe of 7 17: %v, %d", is, e)
	}
	if is, e := cover.Safe(q, []int{3, 1}); is || e != api.OK {
		t.Errorf("Safe of 3 1: %v, %d", is, e)
	}
	if g, e := cover.Weakest(q, []int{3, 1}); g != (api.Gap{Slot: 0, Ill: 1, Tongues: 3, Missing: 1}) || e != api.OK {
		t.Errorf("Weakest of 3 1: %v, %d", g, e)
	}
	if g, e := cover.Weakest(q, []int{7, 17}); g != (api.Gap{}) || e != api.ErrNone {
		t.Errorf("Weakest of 7 17: %v, %d", g, e)
	}
	for slot, want := range [][]int{{7, 47}, {17, 25}} {
		if set, cost, e := cover.Slot(q, slot); set != want[0] || cost != want[1] || e != api.OK {
			t.Errorf("Slot %d: %d, %d, %d", slot, set, cost, e)
		}
	}
	if watch, cost, e := cover.Plan(q); !slices.Equal(watch, []int{7, 17}) || cost != 72 || e != api.OK {
		t.Errorf("Plan: %v, %d, %d", watch, cost, e)
	}
	q.Most = 1
	if watch, cost, e := cover.Plan(q); watch != nil || cost != 0 || e != api.ErrNone {
		t.Errorf("Plan with Most 1: %v, %d, %d", watch, cost, e)
	}
	q.Most = 2
	if l, e := cover.Missed(q, []int{15, 17}); !slices.Equal(l, []int{2, 1, 0, 0, 1}) || e != api.OK {
		t.Errorf("Missed of 15 17: %v, %d", l, e)
	}
	for _, x := range []struct {
		watch []int
		want  int
	}{{[]int{15, 17}, 1}, {[]int{3, 1}, 0}, {[]int{2, 1}, -1}} {
		if n, e := cover.Ready(q, x.watch, 0); n != x.want || e != api.OK {
			t.Errorf("Ready of %v in the slot 0: %d, %d, want %d", x.watch, n, e, x.want)
		}
	}
}
