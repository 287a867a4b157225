package cover_test

import (
	"math/rand/v2"
	"slices"
	"testing"

	"handshape/api"
	"handshape/cover"
	"handshape/relay"
)

// studioOf is a studio with one time, in which people answer an emergency for each that is needed in a slot.
func studioOf(p api.Pool, slot, set int) api.Studio {
	s := api.Studio{Times: 1}
	for person, x := range p.Folk {
		if has(set, person) {
			s.Signers = append(s.Signers, api.Signer{Tongues: x.Tongues, From: 0, Until: 1})
		}
	}
	for tongue, n := range p.Needs[slot] {
		s.Rings = append(s.Rings, slices.Repeat([]api.Ring{{Tongue: tongue, Urgent: true}}, n)...)
	}
	return s
}

// answerAll reports whether the best answers of a studio answer all calls at once.
func answerAll(t *testing.T, s api.Studio) bool {
	t.Helper()
	_, urgent, other, e := relay.Plan(s)
	most, f := relay.Most(s, 0, true)
	if e != api.OK || f != api.OK || other != 0 || urgent != len(s.Rings)-most {
		t.Fatalf("Plan of %v: %d, %d, %d; Most %d, %d", s, urgent, other, e, most, f)
	}
	return urgent == 0
}

// answered reports whether people answer at once all emergencies that are needed in a slot, those of a studio's size if there are more of them.
func answered(t *testing.T, p api.Pool, slot, set int) bool {
	t.Helper()
	all := false
	eachPart(set, func(part int) {
		if size(part) == min(size(set), api.MaxSigners) {
			all = all || answerAll(t, studioOf(p, slot, part))
		}
	})
	return all
}

// inStudio reports whether the people and the needs of a slot are not too many for a studio, nor too few.
func inStudio(p api.Pool, slot, set int) bool {
	calls := 0
	for _, n := range p.Needs[slot] {
		calls += n
	}
	return set != 0 && (size(set) <= api.MaxSigners || calls <= api.MaxSigners)
}

// P0.3
func TestOnCall(t *testing.T) {
	ready, failed := 0, 0
	check := func(_ *rand.Rand, p api.Pool, watch []int) {
		if plan, _ := planOf(t, p); plan != nil {
			watch = plan
		}
		is := isSafe(t, p, watch)
		for slot, set := range watch {
			eachPart(set, func(ill int) {
				others := set - ill
				if size(ill) > p.Ill || !inStudio(p, slot, others) || slices.Max(p.Needs[slot]) == 0 {
					return
				}
				at := answered(t, p, slot, others)
				if is && !at {
					t.Errorf("%v is safe for %v, but with %d ill in %d the others do not answer all at once", watch, p, ill, slot)
				}
				if is {
					ready++
				}
				if !at {
					failed++
				}
			})
		}
	}
	eachSmall(300, check)
	eachLarge(100, check)
	if ready < 200 || failed < 200 {
		t.Errorf("the others of safe watches have answered all %d times; others of other watches failed %d times", ready, failed)
	}
}

// P0.3: a slot with one more ill person than Ready says has somebody for whom nobody answers at once.
func TestOnCallAsReady(t *testing.T) {
	fails := 0
	eachSmall(300, func(_ *rand.Rand, p api.Pool, watch []int) {
		for slot, set := range watch {
			n := readyOf(t, p, watch, slot)
			worst := false
			eachPart(set, func(ill int) {
				if others := set - ill; size(ill) == n+1 && inStudio(p, slot, others) {
					worst = worst || !answered(t, p, slot, others)
				} else if size(ill) <= n && inStudio(p, slot, others) && !answered(t, p, slot, others) {
					t.Errorf("Ready of %v and %v in %d = %d, but with %d ill the others do not answer all at once", p, watch, slot, n, ill)
				}
			})
			if worst {
				fails++
			}
			if n+1 < size(set) && !worst {
				t.Errorf("Ready of %v and %v in %d = %d, but with one more the others answer all at once", p, watch, slot, n)
			}
		}
	})
	if fails < 100 {
		t.Errorf("%d times one more ill person would be too many", fails)
	}
}

// TestOnCallOfExample has the chapter's pool: whoever of 0, 1 and 2 is ill, the others answer a call for each language.
func TestOnCallOfExample(t *testing.T) {
	q := poolQ()
	if set, _, e := cover.Slot(q, 0); set != 7 || e != api.OK {
		t.Fatalf("Slot: %d, %d", set, e)
	}
	for ill, want := range map[int]bool{0: true, 1: true, 2: true, 4: true, 3: false, 5: false, 6: false} {
		if is := answered(t, q, 0, 7-ill); is != want {
			t.Errorf("with %d ill the others answer all: %v", ill, is)
		}
	}
}
