package signs_test

import (
	"math"
	"slices"
	"testing"

	"handshape/api"
	"handshape/signs"
)

// invalidForms has a form for each bound, just beyond it.
func invalidForms() []api.Form {
	return []api.Form{
		{Right: -1, Left: -1},
		{Right: -2}, {Right: 32}, {Left: -2}, {Left: 32},
		{Column: -4}, {Column: 4}, {Row: -1}, {Row: 6}, {Face: -1}, {Face: 8},
		{Moves: []int{-1}}, {Moves: []int{0, 8}}, {Moves: make([]int, 7)},
		{Right: math.MinInt, Left: math.MinInt}, {Column: math.MinInt}, {Moves: []int{math.MaxInt}},
	}
}

// validForms has forms at each bound.
func validForms() []api.Form {
	return []api.Form{
		{Right: -1}, {Left: -1}, {Right: 31}, {Left: 31}, {Column: -3}, {Column: 3}, {Row: 5}, {Face: 7},
		{Moves: []int{0, 1, 2, 3, 4, 5}}, {Moves: []int{7, 7}},
	}
}

// P1.1
func TestCanon(t *testing.T) {
	both := api.Form{Right: 9, Left: 2, Row: 1, Moves: []int{3}}
	turned := api.Form{Right: 2, Left: 9, Row: 1, Moves: []int{5}}
	for _, c := range []struct{ form, want api.Form }{
		{formF, formF},
		{mirrorF, formF},
		{formG, formG},
		{both, turned},
		{turned, turned},
		{api.Form{Right: 1, Left: -1}, api.Form{Right: -1, Left: 1}},
		{api.Form{Left: 8, Column: 2}, api.Form{Right: 8, Column: -2}},
		{api.Form{Right: 1, Left: 1, Face: 7, Moves: []int{0, 4, 7}}, api.Form{Right: 1, Left: 1, Face: 7, Moves: []int{0, 4, 1}}},
		{api.Form{Moves: []int{7, 6, 5, 4, 3, 2}}, api.Form{Moves: []int{1, 2, 3, 4, 5, 6}}},
		{api.Form{Moves: []int{1, 7}}, api.Form{Moves: []int{1, 7}}},
	} {
		if got, e := signs.Canon(c.form); e != api.OK || !sameForm(got, c.want) {
			t.Errorf("Canon of %v = %v, %d, want %v", c.form, got, e, c.want)
		}
	}
	for _, f := range validForms() {
		if got, e := signs.Canon(f); e != api.OK || !sameForm(got, canonOf(f)) {
			t.Errorf("Canon of %v = %v, %d", f, got, e)
		}
	}
	for _, f := range invalidForms() {
		if got, e := signs.Canon(f); e != api.ErrForm || !sameForm(got, api.Form{}) {
			t.Errorf("Canon of %v = %v, %d", f, got, e)
		}
	}
}

func TestCanonIsNewMemory(t *testing.T) {
	f := copied(formF)
	got, _ := signs.Canon(f)
	got.Moves[0] = 5
	if !sameForm(f, formF) {
		t.Errorf("a change of the canon changes its form to %v", f)
	}
	f = copied(mirrorF)
	if signs.Canon(f); !sameForm(f, mirrorF) {
		t.Errorf("Canon changes its argument to %v", f)
	}
}

// P1.2
func TestCompare(t *testing.T) {
	base := api.Form{Right: 4, Left: 4, Row: 2, Face: 3, Moves: []int{0, 2}}
	with := func(change func(f *api.Form)) api.Form {
		f := copied(base)
		change(&f)
		return f
	}
	// each form decides by an earlier number than the one before it, and against all later ones
	ascending := []api.Form{
		with(func(f *api.Form) { f.Row, f.Column, f.Right = 1, 0, 9 }),
		with(func(f *api.Form) { f.Column, f.Right = -3, 9 }),
		with(func(f *api.Form) { f.Column, f.Right = 2, 9 }),
		with(func(f *api.Form) { f.Right, f.Left, f.Face = 3, 9, 7 }),
		with(func(f *api.Form) { f.Right, f.Left, f.Face = 11, 3, 0 }),
		with(func(f *api.Form) { f.Face, f.Moves = 2, []int{4, 4} }),
		with(func(f *api.Form) { f.Moves = nil }),
		with(func(f *api.Form) { f.Moves = []int{0} }),
		with(func(f *api.Form) { f.Moves = []int{0, 1, 4} }),
		base,
		with(func(f *api.Form) { f.Moves = []int{0, 2, 0} }),
		with(func(f *api.Form) { f.Moves = []int{4} }),
		with(func(f *api.Form) { f.Row, f.Column = 3, -3 }),
	}
	for i, a := range ascending {
		for j, b := range ascending {
			want := min(max(i-j, -1), 1)
			for _, g := range []api.Form{b, mirrored(b)} {
				if n, e := signs.Compare(a, g); e != api.OK || n != want {
					t.Errorf("Compare of %v and %v = %d, %d, want %d", a, g, n, e, want)
				}
			}
		}
	}
	for _, f := range invalidForms() {
		for _, pair := range [][2]api.Form{{f, formF}, {formF, f}, {f, f}} {
			if n, e := signs.Compare(pair[0], pair[1]); n != 0 || e != api.ErrForm {
				t.Errorf("Compare of %v = %d, %d", pair, n, e)
			}
		}
	}
}

// P1.9
func TestOneOrder(t *testing.T) {
	r := chance()
	var forms []api.Form
	for range 60 {
		forms = append(forms, drawForm(r))
	}
	compare := func(a, b api.Form) int {
		n, e := signs.Compare(a, b)
		if e != api.OK {
			t.Fatalf("Compare of %v and %v: error %d", a, b, e)
		}
		return n
	}
	for _, a := range forms {
		c, _ := signs.Canon(a)
		ofMirror, _ := signs.Canon(mirrored(a))
		ofCanon, _ := signs.Canon(c)
		if !sameForm(c, ofMirror) || !sameForm(c, ofCanon) {
			t.Errorf("the canon of %v is %v, of its mirror form %v, of the canon %v", a, c, ofMirror, ofCanon)
		}
		for _, b := range forms {
			equal := sameForm(a, b) || sameForm(a, mirrored(b))
			if n := compare(a, b); n != -compare(b, a) || (n == 0) != equal {
				t.Errorf("Compare of %v and %v = %d", a, b, n)
			}
			for _, c := range forms {
				if compare(a, b) < 0 && compare(b, c) < 0 && compare(a, c) >= 0 {
					t.Errorf("%v is before %v, and this before %v", a, b, c)
				}
			}
		}
	}
	byNumbers := func(a, b api.Form) int { return slices.Compare(numbers(canonOf(a)), numbers(canonOf(b))) }
	if slices.SortStableFunc(forms, byNumbers); !slices.IsSortedFunc(forms, compare) {
		t.Errorf("forms are not in order: %v", forms)
	}
}
