package exams_test

import (
	"math/rand/v2"
	"slices"
	"testing"

	"handshape/api"
	"handshape/exams"
)

// widthAfter is the difference of the greatest and the least result of the truths that a mark for an item leaves; found is false if it leaves none.
func widthAfter(p api.Paper, truths [][]int, err, item, mark int) (width int, found bool) {
	var left []int
	for _, points := range truths {
		if n := points[item]; max(n-mark, mark-n) <= err {
			left = append(left, resultOf(p, points))
		}
	}
	if len(left) == 0 {
		return 0, false
	}
	return slices.Max(left) - slices.Min(left), true
}

// nextByAll is the item that Next is to return and its width, by all truths and all marks that one more judge may give.
func nextByAll(p api.Paper, truths [][]int, err int) (item, width int) {
	widths := make([]int, len(p.Items))
	for i := range p.Items {
		for mark := -err; mark <= api.MaxPoints+err; mark++ {
			w, _ := widthAfter(p, truths, err, i, mark)
			widths[i] = max(widths[i], w)
		}
	}
	width = slices.Min(widths)
	return slices.Index(widths, width), width
}

// P9.8
func TestNext(t *testing.T) {
	for i, x := range []struct {
		p           api.Paper
		err         int
		item, width int
	}{
		// a mark tells the points of its item, the others stay as they are
		{blank(5), 0, 0, 0}, {blank(5, 7), 0, 1, 5}, {blank(7, 5), 0, 0, 5}, {blank(5, 5), 0, 0, 5}, {blank(4, 5, 5), 0, 1, 9}, {blank(0, 0), 5, 0, 0}, {blank(1, 0), 0, 0, 0},
		{weighed(blank(5, 7), 3, 1), 0, 0, 7}, {weighed(blank(5, 7), 0, 1), 0, 1, 0}, {weighed(blank(5, 7), 0, 0), 0, 0, 0}, {weighed(blank(9, 1), 1, 10), 0, 1, 9}, {weighed(blank(9, 1), 1, 9), 0, 0, 9},
		// with an error some points of the item stay open: two on each side, or all
		{blank(9), 1, 0, 2}, {blank(9), 2, 0, 4}, {blank(9), 4, 0, 8}, {blank(9), 5, 0, 9}, {blank(3), 2, 0, 3}, {blank(3), 5, 0, 3}, {weighed(blank(9), 7), 1, 0, 14},
		{blank(5, 7), 1, 1, 7}, {blank(5, 7), 5, 0, 12}, {weighed(blank(3, 9), 5, 1), 1, 1, 17}, {weighed(blank(3, 9), 5, 1), 2, 1, 19}, {weighed(blank(3, 9), 5, 1), 5, 0, 24},
		// the points that are possible lie apart
		{unfair(marked(marked(blank(9), 2), 7), 1), 1, 0, 0}, {unfair(marked(marked(blank(9), 2), 7), 1), 2, 0, 0}, {unfair(marked(marked(blank(9), 2), 7), 1), 3, 0, 5},
		// what is possible for the one item depends on the other one
		{unfair(marked(marked(blank(9, 9), 2, 3), 6, 3), 1), 0, 0, 0}, {unfair(marked(marked(blank(9, 9), 2, 3), 2, 8), 1), 0, 1, 0}, {unfair(marked(marked(blank(9, 9), 2, 3), 2, 8), 1), 3, 0, 5}, {unfair(marked(marked(blank(9, 9), 2, 3), 4, 1), 1), 0, 0, 0}, {unfair(marked(marked(blank(9, 9), 2, 3), 4, 1), 1), 1, 0, 0},
		{judged(blank(9, 9), span(-3, 3), 0, 4, 5), 0, 0, 0}, {judged(blank(9, 9), span(-3, 3), 0, 4, 5), 1, 0, 4},
		{paperP(), 2, 0, 3}, {paperP(), 5, 0, 3}, {marked(blank(9, 9), 2, 3), 5, 0, 0},
	} {
		if item, width, e := exams.Next(x.p, x.err); item != x.item || width != x.width || e != api.OK {
			t.Errorf("%d: Next of %v with the error %d = %d, %d, %d, want %d, %d", i, x.p, x.err, item, width, e, x.item, x.width)
		}
	}
}

// P9.8: on small papers, by all truths and marks.
func TestNextByAll(t *testing.T) {
	items, narrower := map[int]int{}, 0
	eachSmall(1000, func(r *rand.Rand, p api.Paper) {
		truths := possibleTruths(p)
		for err := range api.MaxError + 1 {
			item, width, e := exams.Next(p, err)
			if len(truths) == 0 {
				if item != 0 || width != 0 || e != api.ErrNone {
					t.Errorf("Next of %v with the error %d = %d, %d, %d", p, err, item, width, e)
				}
				continue
			}
			wantItem, wantWidth := nextByAll(p, truths, err)
			if item != wantItem || width != wantWidth || e != api.OK {
				t.Errorf("Next of %v with the error %d = %d, %d, %d, want %d, %d", p, err, item, width, e, wantItem, wantWidth)
			}
			items[item]++
			if x := spanOf(resultsIn(p, truths)); width < x.High-x.Low {
				narrower++
			}
		}
	})
	if items[0] < 500 || items[1] < 300 || items[2] < 50 || items[3] < 20 || narrower < 500 {
		t.Errorf("the items of Next: %v; of %d results are excluded", items, narrower)
	}
}

// P9.14: after a mark for the item of Next, whatever it is, the results that are left differ by at most its width: one more judge who is right marks it.
func TestBestNextMark(t *testing.T) {
	reached := 0
	eachLarge(400, func(r *rand.Rand, p api.Paper, _ []int) {
		err := r.IntN(api.MaxError + 1)
		item, width, e := exams.Next(p, err)
		if e != api.OK {
			t.Fatalf("Next of %v with the error %d: error %d", p, err, e)
		}
		truths, widest := possibleTruths(p), 0
		for mark := -err; mark <= p.Items[item].Most+err; mark++ {
			left, _ := widthAfter(p, truths, err, item, mark)
			widest = max(widest, left)
		}
		if widest != width {
			t.Errorf("Next of %v with the error %d = %d, %d; a mark leaves %d", p, err, item, width, widest)
		}
		if width > 0 {
			reached++
		}
	})
	if reached < 100 {
		t.Errorf("the results of %d drawn papers still differ after a mark", reached)
	}
}

// P9.14: the mark of a judge who cannot be wrong is one more judge of the paper.
func TestMarkOfOneMore(t *testing.T) {
	marked := 0
	eachLarge(300, func(r *rand.Rand, p api.Paper, truth []int) {
		p.Wrong, p.Judges = 0, nil
		for range r.IntN(api.MaxJudges) {
			p.Judges = append(p.Judges, drawJudge(r, truth, true, api.MaxError))
		}
		err := r.IntN(api.MaxError + 1)
		item, width, e := exams.Next(p, err)
		if e != api.OK {
			t.Fatalf("Next of %v with the error %d: error %d", p, err, e)
		}
		for mark := range p.Items[item].Most + 1 {
			marks := slices.Repeat([]int{-1}, len(p.Items))
			marks[item] = mark
			x, e := exams.Range(judged(p, span(0, 0), err, marks...))
			if e == api.OK && x.High-x.Low > width {
				t.Errorf("Next of %v with the error %d = %d, %d; with the mark %d Range %v", p, err, item, width, mark, x)
			}
			if e == api.OK && x.Low < x.High {
				marked++
			}
		}
	})
	if marked < 1000 {
		t.Errorf("%d marks leave several results", marked)
	}
}

// result is a paper whose results are the numbers of a span, of which there are at most four.
func result(low, high int) api.Paper { return judged(blank(30), span(0, high-low), 0, high) }

// P9.9
func TestRanks(t *testing.T) {
	for i, x := range []struct {
		l    []api.Paper
		want []api.Span
	}{
		{nil, nil}, {[]api.Paper{result(5, 5)}, []api.Span{span(1, 1)}}, {[]api.Paper{result(5, 8)}, []api.Span{span(1, 1)}},
		{[]api.Paper{result(5, 5), result(6, 6)}, []api.Span{span(2, 2), span(1, 1)}}, {[]api.Paper{result(6, 6), result(5, 5)}, []api.Span{span(1, 1), span(2, 2)}},
		// equal results have equal ranks, and the next rank is left out
		{[]api.Paper{result(6, 6), result(6, 6), result(5, 5)}, []api.Span{span(1, 1), span(1, 1), span(3, 3)}}, {slices.Repeat([]api.Paper{result(6, 6)}, 6), slices.Repeat([]api.Span{span(1, 1)}, 6)},
		// the ends of two are the same, or one beyond
		{[]api.Paper{result(4, 6), result(6, 8)}, []api.Span{span(1, 2), span(1, 1)}}, {[]api.Paper{result(4, 6), result(7, 8)}, []api.Span{span(2, 2), span(1, 1)}}, {[]api.Paper{result(4, 6), result(5, 8)}, []api.Span{span(1, 2), span(1, 2)}},
		// the same paper twice are two people, whose results can differ
		{slices.Repeat([]api.Paper{result(4, 5)}, 2), []api.Span{span(1, 2), span(1, 2)}}, {slices.Repeat([]api.Paper{result(4, 6)}, 6), slices.Repeat([]api.Span{span(1, 6)}, 6)},
		{[]api.Paper{result(5, 5), result(4, 5), result(5, 6), result(7, 9), result(9, 9), result(0, 0)}, []api.Span{span(3, 4), span(3, 5), span(3, 3), span(1, 2), span(1, 1), span(6, 6)}},
		// other items and weights are no matter
		{[]api.Paper{weighed(blank(1, 1), 10, 5), result(8, 8), weighed(blank(30), 0)}, []api.Span{span(1, 2), span(1, 2), span(2, 3)}},
	} {
		if l, e := exams.Ranks(x.l); !slices.Equal(l, x.want) || e != api.OK {
			t.Errorf("%d: Ranks = %v, %d, want %v", i, l, e, x.want)
		}
	}
}

// eachChoice calls a function for all choices of one number of each slice.
func eachChoice(l [][]int, do func(chosen []int)) {
	chosen := make([]int, len(l))
	var choose func(i int)
	choose = func(i int) {
		if i == len(l) {
			do(chosen)
			return
		}
		for _, n := range l[i] {
			chosen[i] = n
			choose(i + 1)
		}
	}
	choose(0)
}

// rankOf is 1 and how many results are greater.
func rankOf(results []int, own int) int {
	rank := 1
	for _, n := range results {
		if n > own {
			rank++
		}
	}
	return rank
}

// P9.9, P9.15: on small papers, by all results that each of them can have.
func TestRanksByAll(t *testing.T) {
	var papers []api.Paper
	eachSmall(900, func(_ *rand.Rand, p api.Paper) {
		if len(possibleTruths(p)) > 0 {
			papers = append(papers, p)
		}
	})
	several := 0
	for l := range slices.Chunk(papers, 3) {
		var results [][]int
		for _, p := range l {
			all := resultsIn(p, possibleTruths(p))
			slices.Sort(all)
			results = append(results, slices.Compact(all))
		}
		ranks := make([][]int, len(l))
		eachChoice(results, func(chosen []int) {
			for i, n := range chosen {
				ranks[i] = append(ranks[i], rankOf(chosen, n))
			}
		})
		got, e := exams.Ranks(l)
		if len(got) != len(l) || e != api.OK {
			t.Fatalf("Ranks of %v = %v, %d", l, got, e)
		}
		for i, x := range got {
			if x != spanOf(ranks[i]) {
				t.Errorf("Ranks of %v = %v, want %v of %d", l, got, spanOf(ranks[i]), i)
			}
			if x.Low < x.High {
				several++
			}
		}
	}
	if several < 100 {
		t.Errorf("%d drawn papers can have several ranks", several)
	}
}

// P9.15: each paper has, in its drawn truth, a rank within Ranks; one that surely has a greater result has a lower least and a lower greatest rank.
func TestSureRanks(t *testing.T) {
	var papers []api.Paper
	var results []int
	eachLarge(600, func(_ *rand.Rand, p api.Paper, truth []int) {
		papers, results = append(papers, p), append(results, resultOf(p, truth))
	})
	greater := 0
	for first := 0; first+api.MaxPapers <= len(papers); first += api.MaxPapers {
		l, own := papers[first:first+api.MaxPapers], results[first:first+api.MaxPapers]
		ranks, e := exams.Ranks(l)
		if len(ranks) != len(l) || e != api.OK {
			t.Fatalf("Ranks of %v = %v, %d", l, ranks, e)
		}
		for i, x := range ranks {
			if !contains(x, rankOf(own, own[i])) {
				t.Errorf("Ranks of %v = %v, but %d has the rank %d", l, ranks, i, rankOf(own, own[i]))
			}
			for j, y := range ranks {
				if rangeOf(t, l[i]).Low > rangeOf(t, l[j]).High {
					greater++
					if x.Low >= y.Low || x.High >= y.High {
						t.Errorf("Ranks of %v = %v, but %d surely has a greater result than %d", l, ranks, i, j)
					}
				}
			}
		}
	}
	if greater < 100 {
		t.Errorf("%d pairs of drawn papers surely have different results", greater)
	}
}
