package secrets_test

import (
	"cmp"
	"math/rand/v2"
	"slices"
	"testing"

	"handshape/api"
	"handshape/secrets"
)

// P8.4
func TestSafe(t *testing.T) {
	gap := func(n int, secret ...int) api.Sheet {
		return changedS(func(s *api.Sheet) { s.Secret, s.Gap = secret, n })
	}
	for i, x := range []struct {
		s    api.Sheet
		mask []int
		want bool
	}{
		// the ranges in the last two rows are 25 wide
		{gap(25, 0, 0, 2), []int{0, 3, 3}, true}, {gap(26, 0, 0, 2), []int{0, 3, 3}, false}, {gap(25, 0, 3, 3), []int{0, 3, 3}, true}, {gap(26, 0, 0, 2), []int{0, 7, 7}, true},
		// a secret is not left out, whatever the others are
		{gap(1, 0, 0, 6), []int{0, 3, 3}, false}, {gap(1, 1, 0, 2), []int{0, 3, 3}, false}, {gap(1, 0, 0, 2), []int{7, 7, 5}, false}, {gap(1, 1, 0, 0), []int{0, 0, 0}, false},
		// one of several secrets is known
		{gap(1, 0, 2, 6), []int{0, 3, 7}, false}, {gap(1, 0, 6, 6), []int{0, 7, 7}, true}, {gap(1, 1, 0, 2), []int{1, 3, 3}, false}, {gap(1, 1, 0, 2), []int{3, 3, 3}, true}, {gap(1, 1, 0, 2), []int{3, 3, 0}, false},
		{gap(1, 0, 0, 2), []int{0, 0, 7}, false}, {gap(1, 0, 0, 2), []int{2, 2, 2}, false}, {gap(1000, 0, 0, 0), []int{0, 0, 0}, true}, {gap(1000, 0, 0, 0), []int{7, 3, 1}, true},
		{gap(61, 0, 0, 2), []int{7, 7, 7}, true}, {gap(62, 0, 0, 2), []int{7, 7, 7}, false}, {gap(44, 7, 7, 7), []int{7, 7, 7}, true}, {gap(45, 7, 7, 7), []int{7, 7, 7}, false},
		{api.Sheet{Amounts: [][]int{{5}}, Secret: []int{1}, Gap: 1}, []int{1}, false}, {even(1, 1, 5, 1), []int{0}, true},
	} {
		if safe, e := secrets.Safe(x.s, x.mask); safe != x.want || e != api.OK {
			t.Errorf("%d: Safe of %v and %v = %v, %d", i, x.s, x.mask, safe, e)
		}
	}
}

// P8.4: on small sheets, by all sheets that agree.
func TestSafeByAll(t *testing.T) {
	found := map[bool]int{}
	eachSmall(6000, 16, func(r *rand.Rand, s api.Sheet, mask []int) {
		if r.IntN(4) > 0 {
			for row, set := range s.Secret {
				mask[row] |= set
			}
		}
		want := isSafeBy(s, mask, spansByAll(s, mask))
		if slices.Max(s.Secret) > 0 {
			found[want]++
		}
		if safe, e := secrets.Safe(s, mask); safe != want || e != api.OK {
			t.Errorf("Safe of %v and %v = %v, %d", s, mask, safe, e)
		}
	})
	if found[true] < 100 || found[false] < 100 {
		t.Errorf("drawn masks are safe: %v", found)
	}
}

// P8.11: with a safe mask there is, for each secret amount, a sheet with the same print whose amount is far away.
func TestFarAway(t *testing.T) {
	far := 0
	eachLarge(400, func(r *rand.Rand, s api.Sheet, mask []int) {
		if !safeOf(t, s, mask) {
			return
		}
		eachCell(s, func(row, column int) {
			if !isIn(s.Secret[row], column) {
				return
			}
			n, away := s.Amounts[row][column], (s.Gap+1)/2
			x := rangeOf(t, s, mask, row, column)
			end := x.High
			if n-x.Low > x.High-n {
				end = x.Low
			}
			l, e := secrets.Other(s, mask, row, column, end)
			if e != api.OK || !agrees(s, mask, l) || max(l[row][column]-n, n-l[row][column]) < away {
				t.Errorf("Other of %v and %v, %d, %d, %d = %v, %d", s, mask, row, column, end, l, e)
			}
			far++
		})
	})
	if far < 50 {
		t.Errorf("%d secret amounts of drawn sheets have a safe mask", far)
	}
}

// P8.12: a safe mask stays safe if more amounts are left out.
func TestStaysSafe(t *testing.T) {
	stays := 0
	eachLarge(600, func(r *rand.Rand, s api.Sheet, mask []int) {
		if !safeOf(t, s, mask) || slices.Max(s.Secret) == 0 {
			return
		}
		stays++
		more := slices.Clone(mask)
		for row, set := range drawMask(r, s) {
			more[row] |= set
			if !safeOf(t, s, more) {
				t.Errorf("of %v: %v is safe, %v is not", s, mask, more)
			}
		}
	})
	if stays < 50 {
		t.Errorf("%d drawn masks are safe", stays)
	}
}

// wantMasks are the masks that Least and Worth are to return of all safe ones; none if there is none.
func wantMasks(s api.Sheet, safe [][]int) (least, worth []int) {
	if len(safe) == 0 {
		return nil, nil
	}
	least = slices.MinFunc(safe, func(a, b []int) int {
		aCount, aSum := leftOut(s, a)
		bCount, bSum := leftOut(s, b)
		return cmp.Or(aCount-bCount, aSum-bSum, slices.Compare(a, b))
	})
	worth = slices.MinFunc(safe, func(a, b []int) int {
		aCount, aSum := leftOut(s, a)
		bCount, bSum := leftOut(s, b)
		return cmp.Or(aSum-bSum, aCount-bCount, slices.Compare(a, b))
	})
	return least, worth
}

// checkMasks checks Least and Worth by all masks that are safe.
func checkMasks(t *testing.T, s api.Sheet, safe [][]int) {
	t.Helper()
	want := api.OK
	if len(safe) == 0 {
		want = api.ErrNone
	}
	least, worth := wantMasks(s, safe)
	if mask, e := secrets.Least(s); !slices.Equal(mask, least) || e != want {
		t.Errorf("Least of %v = %v, %d, want %v, %d", s, mask, e, least, want)
	}
	if mask, e := secrets.Worth(s); !slices.Equal(mask, worth) || e != want {
		t.Errorf("Worth of %v = %v, %d, want %v, %d", s, mask, e, worth, want)
	}
}

// P8.6, P8.7
func TestLeastAndWorth(t *testing.T) {
	secret := func(s api.Sheet, set ...int) api.Sheet {
		s.Secret = set
		return s
	}
	// with the gap 3 a few dear amounts can be left out, or more of the cheap ones, which cost the same with two masks
	dear := api.Sheet{Amounts: [][]int{{50, 50, 1}, {50, 50, 1}, {1, 1, 1}}, Secret: []int{1, 0, 0}, Gap: 1}
	// nothing can move: all other amounts are 0
	still := api.Sheet{Amounts: [][]int{{5, 0}, {0, 0}}, Secret: []int{1, 0}, Gap: 1}
	for i, x := range []struct {
		s            api.Sheet
		least, worth []int
		e            api.Errno
	}{
		// all masks of four amounts have the same sum: the lower sets in the first rows
		{secret(even(3, 3, 5, 10), 0, 0, 1), []int{0, 3, 3}, []int{0, 3, 3}, api.OK}, {secret(even(3, 3, 5, 10), 4, 0, 0), []int{5, 0, 5}, []int{5, 0, 5}, api.OK}, {secret(even(3, 3, 5, 10), 0, 2, 0), []int{0, 3, 3}, []int{0, 3, 3}, api.OK},
		{secret(even(4, 4, 0, 1), 1, 0, 0, 0), nil, nil, api.ErrNone}, {secret(even(1, 4, 9, 1), 1), nil, nil, api.ErrNone}, {secret(even(4, 1, 9, 1), 0, 0, 0, 1), nil, nil, api.ErrNone}, {secret(even(1, 1, 9, 1), 1), nil, nil, api.ErrNone},
		{still, nil, nil, api.ErrNone}, {secret(even(2, 2, 5, 11), 1, 0), nil, nil, api.ErrNone}, {secret(even(2, 2, 5, 10), 1, 0), []int{3, 3}, []int{3, 3}, api.OK},
		{dear, []int{5, 0, 5}, []int{5, 0, 5}, api.OK}, {changed(dear, func(s *api.Sheet) { s.Gap = 3 }), []int{3, 3, 0}, []int{5, 5, 5}, api.OK},
		// without secrets nothing is left out, also if that would cost nothing
		{secret(even(3, 3, 0, 1), 0, 0, 0), []int{0, 0, 0}, []int{0, 0, 0}, api.OK}, {secret(even(4, 4, 10000, 1000), 0, 0, 0, 0), []int{0, 0, 0, 0}, []int{0, 0, 0, 0}, api.OK}, {even(1, 1, 1, 1), []int{0}, []int{0}, api.OK},
		{secret(even(4, 4, 1000, 1000), 8, 4, 2, 1), []int{9, 6, 6, 9}, []int{9, 6, 6, 9}, api.OK}, {secret(even(4, 4, 1, 4), 15, 15, 15, 15), []int{15, 15, 15, 15}, []int{15, 15, 15, 15}, api.OK},
	} {
		least, e := secrets.Least(x.s)
		worth, f := secrets.Worth(x.s)
		if !slices.Equal(least, x.least) || !slices.Equal(worth, x.worth) || e != x.e || f != x.e {
			t.Errorf("%d: Least = %v, %d; Worth = %v, %d", i, least, e, worth, f)
		}
	}
}

// P8.6, P8.7, P8.13: on small sheets, by all masks and all sheets that agree.
func TestMasksByAll(t *testing.T) {
	found, differ := map[bool]int{}, 0
	r := chance()
	for range 1500 {
		s := drawSheet(r, 2+r.IntN(2), 2+r.IntN(2), 5, 5)
		s.Secret[r.IntN(len(s.Amounts))] |= 1 << r.IntN(len(s.Amounts[0]))
		var safe [][]int
		for _, mask := range masksOf(s) {
			if isSafeBy(s, mask, spansByAll(s, mask)) {
				safe = append(safe, mask)
			}
		}
		checkMasks(t, s, safe)
		found[len(safe) > 0]++
		if least, worth := wantMasks(s, safe); !slices.Equal(least, worth) {
			differ++
		}
	}
	if found[true] < 30 || found[false] < 30 || differ < 10 {
		t.Errorf("drawn sheets have a safe mask: %v; the first ones of %d differ", found, differ)
	}
}

// P8.6, P8.7, P8.13: on sheets of all sizes, by all masks that Safe finds safe.
func TestMasksBySafe(t *testing.T) {
	differ := 0
	check := func(s api.Sheet) {
		var safe [][]int
		for _, mask := range masksOf(s) {
			if safeOf(t, s, mask) {
				safe = append(safe, mask)
			}
		}
		checkMasks(t, s, safe)
		if least, worth := wantMasks(s, safe); !slices.Equal(least, worth) {
			differ++
		}
	}
	r := chance()
	for range 300 {
		check(drawSheet(r, 3, 3, 20, 30))
	}
	for _, most := range []int{3, 400, 10000} {
		check(drawSheet(r, 4, 4, most, min(2*most, api.MaxGap)))
	}
	if differ < 10 {
		t.Errorf("the first masks of %d drawn sheets differ", differ)
	}
}

// P8.13: no mask is safe just if the one that leaves out all amounts is not; a mask that is found is safe, and not if one amount less is left out.
func TestAsLittleAsPossible(t *testing.T) {
	found := map[bool]int{}
	eachLarge(300, func(r *rand.Rand, s api.Sheet, _ []int) {
		all := slices.Repeat([]int{1<<len(s.Amounts[0]) - 1}, len(s.Amounts))
		want := safeOf(t, s, all)
		found[want]++
		for name, find := range map[string]func(s api.Sheet) ([]int, api.Errno){"Least": secrets.Least, "Worth": secrets.Worth} {
			mask, e := find(s)
			if !want {
				if e != api.ErrNone || len(mask) != 0 {
					t.Errorf("%s of %v = %v, %d", name, s, mask, e)
				}
				continue
			}
			if e != api.OK || !safeOf(t, s, mask) {
				t.Errorf("%s of %v = %v, %d", name, s, mask, e)
				continue
			}
			eachCell(s, func(row, column int) {
				less := slices.Clone(mask)
				less[row] &^= 1 << column
				if less[row] != mask[row] && safeOf(t, s, less) {
					t.Errorf("%s of %v = %v, but %v is safe", name, s, mask, less)
				}
			})
		}
	})
	if found[true] < 50 || found[false] < 50 {
		t.Errorf("drawn sheets have a safe mask: %v", found)
	}
}

// P8.14: without secret amounts nothing is left out.
func TestWithoutSecrets(t *testing.T) {
	eachLarge(100, func(r *rand.Rand, s api.Sheet, _ []int) {
		clear(s.Secret)
		least, e := secrets.Least(s)
		worth, f := secrets.Worth(s)
		if !slices.Equal(least, s.Secret) || !slices.Equal(worth, s.Secret) || e != api.OK || f != api.OK {
			t.Errorf("of %v: Least %v, %d; Worth %v, %d", s, least, e, worth, f)
		}
	})
}
