package secrets_test

import (
	"slices"
	"testing"

	"handshape/api"
	"handshape/secrets"
)

// TestExamples has the table of the chapter's examples, and the row of package secrets in the document's section Examples.
func TestExamples(t *testing.T) {
	s, mask := sheetS(), []int{0, 3, 3}
	want := api.Print{Amounts: [][]int{{20, 50, 10}, {-1, -1, 22}, {-1, -1, 12}}, Rows: []int{80, 49, 61}, Cols: []int{45, 101, 44}, All: 190}
	if p, e := secrets.Show(s, mask); !samePrint(p, want) || e != api.OK {
		t.Errorf("Show: %v, %d", p, e)
	}
	if x, e := secrets.Range(s, mask, 2, 1); x != (api.Span{Low: 24, High: 49}) || e != api.OK {
		t.Errorf("Range: %v, %d", x, e)
	}
	if x, e := secrets.Range(s, mask, 0, 0); x != (api.Span{Low: 20, High: 20}) || e != api.OK {
		t.Errorf("Range of an amount that is not left out: %v, %d", x, e)
	}
	if safe, e := secrets.Safe(s, mask); !safe || e != api.OK {
		t.Errorf("Safe: %v, %d", safe, e)
	}
	if safe, e := secrets.Safe(s, []int{0, 3, 2}); safe || e != api.OK {
		t.Errorf("Safe of 0 3 2: %v, %d", safe, e)
	}
	if l, e := secrets.Other(s, mask, 2, 1, 40); !sameTable(l, sheetU().Amounts) || e != api.OK {
		t.Errorf("Other with 40: %v, %d", l, e)
	}
	if l, e := secrets.Other(s, mask, 2, 1, 50); len(l) != 0 || e != api.ErrNone {
		t.Errorf("Other with 50: %v, %d", l, e)
	}
	for same, mask := range map[bool][]int{true: {0, 3, 3}, false: {0, 3, 1}} {
		if is, e := secrets.Same(s, sheetU(), mask); is != same || e != api.OK {
			t.Errorf("Same with %v: %v, %d", mask, is, e)
		}
	}
}

// TestExamplesOfMasks has the rest of the table.
func TestExamplesOfMasks(t *testing.T) {
	for _, x := range []struct {
		name string
		find func(s api.Sheet) ([]int, api.Errno)
		s    api.Sheet
		want []int
	}{
		{"Least of S", secrets.Least, sheetS(), []int{0, 3, 3}}, {"Least of T", secrets.Least, sheetT(), []int{3, 0, 3}},
		{"Worth of S", secrets.Worth, sheetS(), []int{0, 3, 3}}, {"Worth of T", secrets.Worth, sheetT(), []int{5, 5, 5}},
	} {
		if mask, e := x.find(x.s); !slices.Equal(mask, x.want) || e != api.OK {
			t.Errorf("%s: %v, %d", x.name, mask, e)
		}
	}
}
