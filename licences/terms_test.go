package licences_test

import (
	"math/rand/v2"
	"slices"
	"testing"

	"handshape/api"
	"handshape/exams"
	"handshape/licences"
)

// P11.3: when terms begin and end. The paper 0 is passed, the paper 1 is not.
func TestHeld(t *testing.T) {
	for i, x := range []struct {
		f    api.File
		want []api.Span
	}{
		// no exam, none that is passed, one that is
		{file(10, 0), nil}, {file(10, 0, course(1, 5, 9)), nil}, {file(10, 0, exam(1, 5, 1)), nil}, {file(10, 1, exam(1, 5, 0)), days(5, 14)}, {file(10, 1, exam(1, 0, 0)), days(0, 9)}, {file(1, 1, exam(1, 5, 0)), days(5, 5)}, {file(400, 1, exam(1, 5, 0)), days(5, 404)},
		// with no points needed it goes on to the end
		{file(10, 0, exam(1, 5, 0)), days(5, 999)}, {file(1, 0, exam(1, 5, 0)), days(5, 999)}, {file(1, 0, exam(1, 999, 0)), days(999, 999)}, {file(400, 0, exam(1, 0, 0)), days(0, 999)},
		// terms that go on after MaxDay, or just up to it
		{file(10, 1, exam(1, 989, 0)), days(989, 998)}, {file(10, 1, exam(1, 990, 0)), days(990, 999)}, {file(10, 1, exam(1, 991, 0)), days(991, 999)}, {file(400, 1, exam(1, 999, 0)), days(999, 999)}, {file(10, 9, exam(1, 980, 0), course(2, 985, 9)), days(980, 999)},
		// courses on the first and on the last day of a term, and just outside it
		{file(10, 3, exam(1, 5, 0), course(2, 5, 3)), days(5, 24)}, {file(10, 3, exam(1, 5, 0), course(2, 14, 3)), days(5, 24)}, {file(10, 3, exam(1, 5, 0), course(2, 4, 3)), days(5, 14)}, {file(10, 3, exam(1, 5, 0), course(2, 15, 3)), days(5, 14)},
		// just enough points, and one too few
		{file(10, 3, exam(1, 5, 0), course(2, 7, 2)), days(5, 14)}, {file(10, 3, exam(1, 5, 0), course(2, 7, 2), course(3, 9, 1)), days(5, 24)}, {file(10, 3, exam(1, 5, 0), course(2, 9, 1), course(3, 9, 2)), days(5, 24)}, {file(10, 3, exam(1, 5, 0), course(2, 7, 100)), days(5, 24)},
		// the same course twice counts once, two with different Ids count
		{file(10, 4, exam(1, 5, 0), course(2, 7, 2), course(2, 7, 2)), days(5, 14)}, {file(10, 4, exam(1, 5, 0), course(2, 7, 2), course(3, 7, 2)), days(5, 24)},
		// each term needs its own points
		{file(10, 3, exam(1, 5, 0), course(2, 7, 6)), days(5, 24)}, {file(10, 3, exam(1, 5, 0), course(2, 7, 3), course(3, 15, 3)), days(5, 34)}, {file(10, 3, exam(1, 5, 0), course(2, 7, 3), course(3, 24, 2), course(4, 16, 1), course(5, 25, 3)), days(5, 44)}, {file(10, 3, exam(1, 5, 0), course(3, 15, 3), course(4, 25, 3)), days(5, 14)},
		// another exam cuts a term, and the points with it
		{file(10, 3, exam(1, 5, 0), exam(2, 8, 0)), days(5, 17)}, {file(10, 3, exam(1, 5, 0), exam(2, 8, 0), course(3, 7, 3)), days(5, 17)}, {file(10, 3, exam(1, 5, 0), exam(2, 8, 0), course(3, 8, 3)), days(5, 27)}, {file(10, 3, exam(1, 5, 0), exam(2, 8, 0), course(3, 7, 2), course(4, 8, 1)), days(5, 17)}, {file(10, 3, exam(1, 5, 0), exam(2, 14, 0)), days(5, 23)}, {file(10, 3, exam(1, 5, 0), exam(2, 6, 0), exam(3, 7, 0)), days(5, 16)},
		// one that is not passed does not
		{file(10, 3, exam(1, 5, 0), exam(2, 8, 1)), days(5, 14)}, {file(10, 3, exam(1, 5, 0), exam(2, 8, 1), course(3, 7, 2), course(4, 8, 1)), days(5, 24)},
		// two on the same day are one term
		{file(10, 3, exam(1, 5, 0), exam(2, 5, 0)), days(5, 14)}, {file(10, 3, exam(1, 5, 1), exam(2, 5, 0)), days(5, 14)}, {file(10, 3, exam(2, 5, 0), exam(1, 5, 1)), days(5, 14)},
		// an exam on the last day of a term, on the day after it, and a day later; with and without enough points
		{file(10, 3, exam(1, 5, 0), exam(2, 15, 0)), days(5, 24)}, {file(10, 3, exam(1, 5, 0), exam(2, 15, 0), course(3, 9, 3)), days(5, 24)}, {file(10, 3, exam(1, 5, 0), exam(2, 16, 0)), days(5, 14, 16, 25)}, {file(10, 3, exam(1, 5, 0), exam(2, 16, 0), course(3, 9, 3)), days(5, 25)}, {file(10, 3, exam(1, 5, 0), exam(2, 16, 0), course(3, 9, 3), course(4, 15, 3)), days(5, 25)},
		// several times, and in any order
		{file(10, 3, exam(3, 90, 0), exam(1, 5, 0), exam(2, 40, 0)), days(5, 14, 40, 49, 90, 99)}, {file(10, 3, exam(3, 90, 0), exam(1, 5, 0), exam(2, 40, 0), course(4, 45, 3), course(5, 90, 3), course(6, 101, 3)), days(5, 14, 40, 59, 90, 119)},
		// complaints and verdicts make no difference
		{file(10, 3, exam(1, 5, 0), complaint(2, 1, 1), verdict(3, 6, 1, 9)), days(5, 14)},
	} {
		if l := heldOf(t, x.f); !slices.Equal(l, x.want) {
			t.Errorf("%d: Held of %v = %v, want %v", i, x.f.Acts, l, x.want)
		}
	}
}

// P11.3: which grades are enough.
func TestHeldByGrades(t *testing.T) {
	for least := range 6 {
		for most := least; most <= min(least+3, 5); most++ {
			for grade := range 6 {
				f := api.File{Papers: []api.Paper{graded(least, most)}, Term: 10, Grade: grade, Points: 1, Acts: []api.Act{exam(1, 5, 0)}}
				want := days(5, 14)
				if least < grade {
					want = nil
				}
				if l := heldOf(t, f); !slices.Equal(l, want) {
					t.Errorf("Held with a grade from %d to %d, of which %d is needed: %v", least, most, grade, l)
				}
			}
		}
	}
	// each exam has its own paper
	f := api.File{Papers: []api.Paper{graded(1, 1), graded(5, 5), graded(4, 5), graded(0, 3)}, Term: 10, Grade: 4, Points: 1, Acts: []api.Act{exam(1, 5, 0), exam(2, 30, 1), exam(3, 60, 2), exam(4, 90, 3)}}
	if l := heldOf(t, f); !slices.Equal(l, days(30, 39, 60, 69)) {
		t.Errorf("Held with several papers: %v", l)
	}
}

// P11.3: against a licence day by day.
func TestHeldOfMany(t *testing.T) {
	spans, renewed, cut := map[int]int{}, 0, 0
	eachFile(3000, 25, func(_ *rand.Rand, f api.File) {
		l := heldOf(t, f)
		in, fewest := spread(l)
		if in != heldBy(f) || !fewest {
			t.Errorf("Held of %v = %v", f, l)
		}
		spans[len(l)]++
		first := beginnings(f)
		for day := 1; day < len(first); day++ {
			if first[day] == day && first[day-1] >= 0 {
				if first[day-1]+f.Term == day {
					renewed++
				} else {
					cut++
				}
			}
		}
	})
	if spans[0] < 200 || spans[1] < 200 || spans[2] < 200 || spans[3] < 50 || renewed < 1000 || cut < 500 {
		t.Errorf("so many spans are there: %v; %d terms follow another one, %d cut it", spans, renewed, cut)
	}
}

// P11.5: points that are missing, and the last day.
func TestScore(t *testing.T) {
	one := file(10, 5, exam(1, 5, 0), course(2, 9, 2), course(3, 14, 1), course(4, 4, 3), course(5, 15, 3))
	two := withMore(one, exam(6, 10, 0))
	three := withMore(one, course(7, 5, 2))
	late := file(10, 5, exam(1, 995, 0), course(2, 999, 2))
	for _, x := range []struct {
		f                      api.File
		from, to, points, last int
		want                   api.Errno
	}{
		{one, 0, 4, 0, 0, api.ErrNone}, {one, 5, 14, 2, 14, api.OK}, {one, 15, 999, 0, 0, api.ErrNone},
		// a term that another one cuts has only the points of its own days
		{two, 0, 4, 0, 0, api.ErrNone}, {two, 5, 9, 3, 9, api.OK}, {two, 10, 19, 1, 19, api.OK}, {two, 20, 30, 0, 0, api.ErrNone},
		// enough points, and the next term
		{three, 5, 14, 0, 14, api.OK}, {three, 15, 24, 2, 24, api.OK}, {three, 25, 99, 0, 0, api.ErrNone},
		{withMore(three, course(8, 6, 100)), 5, 14, 0, 14, api.OK}, {withMore(three, course(8, 6, 100)), 15, 24, 2, 24, api.OK},
		{withMore(one, exam(6, 15, 0)), 5, 14, 2, 14, api.OK}, {withMore(one, exam(6, 15, 0)), 15, 24, 2, 24, api.OK}, {withMore(one, exam(6, 14, 0)), 5, 13, 3, 13, api.OK}, {withMore(one, exam(6, 14, 0)), 14, 23, 1, 23, api.OK},
		// not after MaxDay
		{late, 994, 994, 0, 0, api.ErrNone}, {late, 995, 999, 3, 999, api.OK}, {file(10, 5, exam(1, 990, 0)), 990, 999, 5, 999, api.OK}, {file(10, 5, exam(1, 989, 0)), 989, 998, 5, 998, api.OK}, {file(10, 5, exam(1, 989, 0)), 999, 999, 0, 0, api.ErrNone}, {file(400, 100, exam(1, 999, 0)), 999, 999, 100, 999, api.OK},
		// nothing is needed
		{file(10, 0, exam(1, 5, 0)), 5, 14, 0, 14, api.OK}, {file(10, 0, exam(1, 5, 0)), 985, 994, 0, 994, api.OK}, {file(10, 0, exam(1, 5, 0)), 995, 999, 0, 999, api.OK}, {file(1, 0, exam(1, 5, 0)), 77, 77, 0, 77, api.OK},
		// a suspension makes no difference
		{withMore(one, complaint(6, 1, 1), verdict(7, 2, 1, 400)), 5, 14, 2, 14, api.OK},
	} {
		for day := x.from; day <= x.to; day++ {
			if points, last, e := licences.Score(x.f, day); points != x.points || last != x.last || e != x.want {
				t.Errorf("Score of %v on %d = %d, %d, %d, want %d, %d, %d", x.f.Acts, day, points, last, e, x.points, x.last, x.want)
			}
		}
	}
}

// P11.5: against a licence day by day.
func TestScoreOfMany(t *testing.T) {
	missing, none := map[bool]int{}, 0
	eachFile(1000, 25, func(r *rand.Rand, f api.File) {
		first := beginnings(f)
		for range 20 {
			day := r.IntN(api.MaxDay + 1)
			if len(f.Acts) > 0 && r.IntN(3) > 0 {
				day = min(api.MaxDay, f.Acts[r.IntN(len(f.Acts))].Day+r.IntN(20))
			}
			points, last, e := licences.Score(f, day)
			if first[day] < 0 {
				none++
				if points != 0 || last != 0 || e != api.ErrNone {
					t.Errorf("Score of %v on %d = %d, %d, %d", f, day, points, last, e)
				}
				continue
			}
			end := day
			for end < api.MaxDay && first[end+1] == first[day] {
				end++
			}
			want := max(0, f.Points-pointsOn(f, first[day], end))
			missing[want > 0]++
			if points != want || last != end || e != api.OK {
				t.Errorf("Score of %v on %d = %d, %d, %d, want %d, %d", f, day, points, last, e, want, end)
			}
		}
	})
	if missing[true] < 1000 || missing[false] < 1000 || none < 1000 {
		t.Errorf("points are missing on so many days: %v; on %d the licence is not held", missing, none)
	}
}

// P11.7: courses that are needed, and their price.
func TestPlan(t *testing.T) {
	f := file(10, 5, exam(1, 20, 0), course(2, 25, 2))
	enough := withMore(f, course(3, 25, 3))
	for i, x := range []struct {
		f                       api.File
		offers                  []api.Offer
		from, until, set, price int
		want                    api.Errno
	}{
		// nothing is needed, or nothing helps
		{f, nil, 20, 29, 0, 0, api.OK}, {f, []api.Offer{offer(22, 5, 1)}, 20, 29, 0, 0, api.OK}, {f, []api.Offer{offer(22, 5, 1)}, 29, 29, 0, 0, api.OK}, {enough, []api.Offer{offer(22, 5, 1)}, 20, 39, 0, 0, api.OK}, {f, nil, 30, 30, 0, 0, api.ErrNone}, {f, []api.Offer{offer(22, 100, 1)}, 19, 29, 0, 0, api.ErrNone}, {file(10, 5), []api.Offer{offer(22, 100, 1)}, 22, 22, 0, 0, api.ErrNone}, {file(10, 5, exam(1, 20, 1)), []api.Offer{offer(22, 100, 1)}, 22, 22, 0, 0, api.ErrNone},
		// on days of the term, with just enough points
		{f, []api.Offer{offer(20, 3, 7)}, 20, 30, 1, 7, api.OK}, {f, []api.Offer{offer(29, 3, 7)}, 20, 30, 1, 7, api.OK}, {f, []api.Offer{offer(19, 3, 7)}, 20, 30, 0, 0, api.ErrNone}, {f, []api.Offer{offer(30, 3, 7)}, 20, 30, 0, 0, api.ErrNone}, {f, []api.Offer{offer(20, 2, 7)}, 20, 30, 0, 0, api.ErrNone}, {f, []api.Offer{offer(25, 3, 7)}, 20, 39, 1, 7, api.OK}, {f, []api.Offer{offer(25, 3, 7)}, 20, 40, 0, 0, api.ErrNone}, {f, []api.Offer{offer(25, 3, 7)}, 35, 35, 1, 7, api.OK},
		// the least price, not the fewest courses
		{f, []api.Offer{offer(21, 3, 9), offer(21, 2, 3), offer(22, 1, 4)}, 30, 30, 6, 7, api.OK}, {f, []api.Offer{offer(21, 3, 6), offer(21, 2, 3), offer(22, 1, 4)}, 30, 30, 1, 6, api.OK},
		// of several the lowest number
		{f, []api.Offer{offer(21, 2, 3), offer(22, 1, 4), offer(21, 3, 7)}, 30, 30, 3, 7, api.OK}, {f, []api.Offer{offer(21, 3, 7), offer(21, 2, 3), offer(22, 1, 4)}, 30, 30, 1, 7, api.OK}, {f, []api.Offer{offer(21, 9, 7), offer(21, 3, 7)}, 30, 30, 1, 7, api.OK}, {f, []api.Offer{offer(21, 9, 0), offer(21, 3, 0), offer(21, 3, 0)}, 30, 30, 1, 0, api.OK}, {enough, []api.Offer{offer(21, 9, 0)}, 30, 30, 0, 0, api.OK}, {f, []api.Offer{offer(50, 9, 0), offer(21, 9, 0)}, 30, 30, 2, 0, api.OK},
		// two equal offers are two courses, also if they are equal to an act
		{f, []api.Offer{offer(21, 2, 3), offer(21, 2, 3)}, 30, 30, 3, 6, api.OK}, {file(10, 4, exam(1, 20, 0), course(0, 25, 2)), []api.Offer{offer(25, 2, 3)}, 30, 30, 1, 3, api.OK},
		// several terms
		{f, []api.Offer{offer(21, 3, 3), offer(31, 5, 6), offer(32, 5, 5), offer(45, 5, 9)}, 30, 59, 13, 17, api.OK}, {f, []api.Offer{offer(21, 3, 3), offer(31, 5, 6), offer(32, 5, 5), offer(45, 5, 9)}, 30, 49, 5, 8, api.OK}, {f, []api.Offer{offer(31, 5, 6), offer(45, 5, 9)}, 40, 40, 0, 0, api.ErrNone},
		// up to another exam
		{withMore(f, exam(3, 28, 0)), []api.Offer{offer(21, 3, 3), offer(28, 5, 4)}, 20, 37, 0, 0, api.OK}, {withMore(f, exam(3, 28, 0)), []api.Offer{offer(21, 3, 3), offer(28, 5, 4)}, 20, 38, 2, 4, api.OK}, {withMore(f, exam(3, 32, 0)), []api.Offer{offer(21, 3, 3)}, 20, 41, 1, 3, api.OK}, {withMore(f, exam(3, 30, 0)), []api.Offer{offer(21, 3, 3)}, 20, 39, 0, 0, api.OK},
		// days without a suspension are not asked for
		{withMore(f, complaint(3, 20, 1), verdict(4, 21, 1, 400)), nil, 20, 29, 0, 0, api.OK},
		// more courses than acts can be
		{file(10, 5, append(many(29), exam(90, 980, 0))...), slices.Repeat([]api.Offer{offer(985, 1, 10000)}, 8), 990, 999, 31, 50000, api.OK}, {file(10, 8, exam(1, 980, 0)), slices.Repeat([]api.Offer{offer(985, 1, 10000)}, 8), 990, 999, 255, 80000, api.OK}, {file(10, 9, exam(1, 980, 0)), slices.Repeat([]api.Offer{offer(985, 1, 10000)}, 8), 990, 999, 0, 0, api.ErrNone},
	} {
		if set, price, e := licences.Plan(x.f, x.offers, x.from, x.until); set != x.set || price != x.price || e != x.want {
			t.Errorf("%d: Plan = %d, %d, %d, want %d, %d, %d", i, set, price, e, x.set, x.price, x.want)
		}
	}
}

// chosen are the courses of a set of offers, with Ids that no act has.
func chosen(f api.File, offers []api.Offer, set int) (l []api.Act, price int) {
	for i, x := range offers {
		if set>>i%2 == 1 {
			l = append(l, course(unused(slices.Concat(f.Acts, l)), x.Day, x.Points))
			price += x.Price
		}
	}
	return l, price
}

// drawOffers draws offers on days around a day, some of them of equal prices.
func drawOffers(r *rand.Rand, f api.File, from int) []api.Offer {
	var l []api.Offer
	for range r.IntN(7) {
		day := min(max(0, from+r.IntN(2*f.Term)-f.Term/2), api.MaxDay)
		l = append(l, offer(day, r.IntN(10), r.IntN(4)))
	}
	return l
}

// drawDays draws the days from one that is held, if there is one, to one that is likely to be held with courses.
func drawDays(r *rand.Rand, f api.File) (from, until int) {
	var l []int
	for day, is := range heldBy(f) {
		if is {
			l = append(l, day)
		}
	}
	from = r.IntN(api.MaxDay + 1)
	if len(l) > 0 && r.IntN(8) > 0 {
		from = l[r.IntN(len(l))]
	}
	return from, min(api.MaxDay, from+r.IntN(1+2*f.Term))
}

// P11.7, P11.13: against the licences with all sets of offers.
func TestPlanOfMany(t *testing.T) {
	none, sizes := 0, map[int]int{}
	eachFile(3000, 12, func(r *rand.Rand, f api.File) {
		// most exams are passed
		f.Grade = min(f.Grade, 1)
		from, until := drawDays(r, f)
		offers := drawOffers(r, f, from)
		best, least, want := 0, 0, api.ErrNone
		for set := range 1 << len(offers) {
			more, price := chosen(f, offers, set)
			held := heldBy(withMore(f, more...))
			if !slices.Contains(held[from:until+1], false) && (want != api.OK || price < least) {
				best, least, want = set, price, api.OK
			}
		}
		set, price, e := licences.Plan(f, offers, from, until)
		if set != best || price != least || e != want {
			t.Errorf("Plan of %v and %v from %d to %d = %d, %d, %d, want %d, %d, %d", f, offers, from, until, set, price, e, best, least, want)
		}
		if e == api.OK {
			more, _ := chosen(f, offers, set)
			sizes[len(more)]++
			// and with its courses the licence is held
			if held := heldDays(t, withMore(f, more...)); slices.Contains(held[from:until+1], false) {
				t.Errorf("with %d of %v, %v is not held from %d to %d", set, offers, f, from, until)
			}
		} else {
			none++
		}
	})
	if none < 200 || sizes[0] < 200 || sizes[1] < 200 || sizes[2] < 30 {
		t.Errorf("%d plans are not there, the others have so many courses: %v", none, sizes)
	}
}

// trueGrade is the grade of an exam with certain points.
func trueGrade(p api.Paper, points []int) int {
	result, grade := 0, 0
	for i, x := range p.Items {
		result += x.Weight * points[i]
	}
	for _, limit := range p.Grades {
		if result >= limit {
			grade++
		}
	}
	return grade
}

// drawJudged draws the points of an exam, and its paper, which some judges mark with errors, and one of them perhaps wrongly.
func drawJudged(r *rand.Rand) (p api.Paper, points []int) {
	p.Grades = []int{5, 10, 15, 20, 25}
	for range 1 + r.IntN(2) {
		x := api.Item{Weight: 1 + r.IntN(2), Most: r.IntN(21)}
		p.Items, points = append(p.Items, x), append(points, r.IntN(x.Most+1))
	}
	p.Wrong = r.IntN(2)
	for i := range 1 + r.IntN(4) {
		j := api.Judge{Bias: span(-r.IntN(2), r.IntN(2)), Error: r.IntN(3)}
		bias := j.Bias.Low + r.IntN(j.Bias.High-j.Bias.Low+1)
		for _, n := range points {
			mark := n + bias + r.IntN(2*j.Error+1) - j.Error
			if i < p.Wrong {
				mark = r.IntN(30)
			}
			j.Marks = append(j.Marks, max(mark, -1))
		}
		p.Judges = append(p.Judges, j)
	}
	return p, points
}

// P11.9: a licence that is held has an exam before whose true grade is enough, whatever the judges' errors are.
func TestSure(t *testing.T) {
	r := chance()
	held, better := 0, 0
	for range 1000 {
		f := api.File{Term: 1 + r.IntN(100), Grade: 1 + r.IntN(4), Points: r.IntN(5)}
		var truths [][]int
		for range 1 + r.IntN(3) {
			p, points := drawJudged(r)
			f.Papers, truths = append(f.Papers, p), append(truths, points)
		}
		for id := range 6 {
			f.Acts = append(f.Acts, drawAct(r, id, 300, len(f.Papers)))
		}
		enough := func(x api.Act) bool {
			return x.Kind == api.Exam && trueGrade(f.Papers[x.Ref], truths[x.Ref]) >= f.Grade
		}
		l := heldOf(t, f)
		for _, x := range l {
			if !slices.ContainsFunc(f.Acts, func(y api.Act) bool { return enough(y) && y.Day == x.Low }) {
				t.Errorf("Held of %v = %v; the true points are %v", f, l, truths)
			}
			held++
		}
		for _, x := range f.Acts {
			if enough(x) && !passes(f, x) {
				better++
			}
		}
		// without acts of exams it never is
		rest := slices.DeleteFunc(slices.Clone(f.Acts), func(x api.Act) bool { return x.Kind == api.Exam })
		if l := heldOf(t, withActs(f, rest...)); len(l) > 0 {
			t.Errorf("Held of %v without exams = %v", f, l)
		}
	}
	if held < 300 || better < 50 {
		t.Errorf("%d spans are held, %d exams are better than sure", held, better)
	}
}

// P11.9: no truth that is possible for the exam of a span that is held has too low a grade.
func TestSureInAllTruths(t *testing.T) {
	r, refused := chance(), 0
	for range 1000 {
		p, _ := drawJudged(r)
		f := api.File{Papers: []api.Paper{p}, Term: 9, Grade: 1 + r.IntN(4), Points: 1, Acts: []api.Act{exam(1, 5, 0)}}
		lower := 0
		for grade := range f.Grade {
			if _, e := exams.Show(p, grade); e == api.OK {
				lower++
			}
		}
		if l := heldOf(t, f); (len(l) > 0) != (lower == 0) {
			t.Errorf("Held of %v = %v; %d lower grades are possible", f, l, lower)
		}
		if lower > 0 {
			refused++
		}
	}
	if refused < 100 || refused > 900 {
		t.Errorf("%d of the drawn exams are not surely passed", refused)
	}
}

// within reports whether all days of a calendar are days of another one.
func within(days, other [api.MaxDay + 1]bool) bool {
	for day, is := range days {
		if is && !other[day] {
			return false
		}
	}
	return true
}

// P11.10: with one more course, or a lower number of Points, no day is lost.
func TestMoreCourses(t *testing.T) {
	gained := make([]int, 2)
	eachFile(2000, 20, func(r *rand.Rand, f api.File) {
		before := heldDays(t, f)
		if l := heldOf(t, f); len(l) > 0 && f.Points > 0 {
			x := l[r.IntN(len(l))]
			day := x.Low + r.IntN(x.High-x.Low+1)
			fewer := f
			fewer.Points = r.IntN(f.Points)
			for i, g := range []api.File{withMore(f, course(unused(f.Acts), day, r.IntN(10))), fewer} {
				after := heldDays(t, g)
				if !within(before, after) {
					t.Errorf("Held of %v has days that Held of %v has not", f, g)
				}
				if before != after {
					gained[i]++
				}
			}
		}
	})
	if slices.Min(gained) < 100 {
		t.Errorf("so often days are gained: %v", gained)
	}
}
