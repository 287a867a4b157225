package licences_test

import (
	"math/rand/v2"
	"slices"
	"testing"

	"handshape/api"
	"handshape/licences"
)

// P11.4: which verdicts suspend a licence, and for how long.
func TestForce(t *testing.T) {
	f := file(100, 1, exam(1, 50, 0))
	for i, x := range []struct {
		acts []api.Act
		want []api.Span
	}{
		{nil, days(50, 149)}, {[]api.Act{complaint(2, 60, 7)}, days(50, 149)},
		// from its own day on, so many days
		{[]api.Act{complaint(2, 60, 7), verdict(3, 70, 7, 1)}, days(50, 69, 71, 149)}, {[]api.Act{complaint(2, 60, 7), verdict(3, 70, 7, 20)}, days(50, 69, 90, 149)}, {[]api.Act{complaint(2, 60, 7), verdict(3, 70, 7, 0)}, days(50, 149)},
		// with a complaint on its day or before, and with the same number
		{[]api.Act{complaint(2, 70, 7), verdict(3, 70, 7, 20)}, days(50, 69, 90, 149)}, {[]api.Act{complaint(3, 70, 7), verdict(2, 70, 7, 20)}, days(50, 69, 90, 149)}, {[]api.Act{complaint(2, 71, 7), verdict(3, 70, 7, 20)}, days(50, 149)}, {[]api.Act{verdict(3, 70, 7, 20)}, days(50, 149)}, {[]api.Act{complaint(2, 60, 8), verdict(3, 70, 7, 20)}, days(50, 149)}, {[]api.Act{complaint(2, 71, 7), complaint(4, 69, 7), verdict(3, 70, 7, 20)}, days(50, 69, 90, 149)},
		// two verdicts, one after the other, over each other, within each other, on one complaint
		{[]api.Act{complaint(2, 60, 7), verdict(3, 70, 7, 20), verdict(4, 90, 7, 10)}, days(50, 69, 100, 149)}, {[]api.Act{complaint(2, 60, 7), verdict(3, 70, 7, 20), verdict(4, 80, 7, 20)}, days(50, 69, 100, 149)}, {[]api.Act{complaint(2, 60, 7), verdict(3, 70, 7, 20), verdict(4, 75, 7, 5)}, days(50, 69, 90, 149)}, {[]api.Act{complaint(2, 60, 7), verdict(3, 70, 7, 20), verdict(4, 80, 7, 0)}, days(50, 69, 90, 149)}, {[]api.Act{complaint(2, 60, 7), verdict(3, 70, 7, 5), verdict(4, 80, 7, 5)}, days(50, 69, 75, 79, 85, 149)},
		// the same verdict twice, and on two complaints
		{[]api.Act{complaint(2, 60, 7), verdict(3, 70, 7, 20), verdict(3, 70, 7, 20)}, days(50, 69, 90, 149)}, {[]api.Act{complaint(2, 60, 7), complaint(5, 60, 8), verdict(3, 70, 7, 20), verdict(4, 70, 8, 30)}, days(50, 69, 100, 149)},
		// over the bounds of a licence
		{[]api.Act{complaint(2, 0, 7), verdict(3, 0, 7, 49)}, days(50, 149)}, {[]api.Act{complaint(2, 0, 7), verdict(3, 0, 7, 60)}, days(60, 149)}, {[]api.Act{complaint(2, 60, 7), verdict(3, 50, 7, 60)}, days(50, 149)}, {[]api.Act{complaint(2, 40, 7), verdict(3, 50, 7, 10)}, days(60, 149)}, {[]api.Act{complaint(2, 60, 7), verdict(3, 140, 7, 10)}, days(50, 139)}, {[]api.Act{complaint(2, 60, 7), verdict(3, 149, 7, 400)}, days(50, 148)}, {[]api.Act{complaint(2, 60, 7), verdict(3, 150, 7, 400)}, days(50, 149)}, {[]api.Act{complaint(2, 10, 7), verdict(3, 20, 7, 400)}, nil}, {[]api.Act{complaint(2, 10, 7), verdict(3, 50, 7, 100)}, nil}, {[]api.Act{complaint(2, 10, 7), verdict(3, 50, 7, 99)}, days(149, 149)},
		// over the end of a term
		{[]api.Act{course(9, 80, 1), complaint(2, 60, 7), verdict(3, 140, 7, 20)}, days(50, 139, 160, 249)},
		// a new exam does not end it
		{[]api.Act{exam(9, 75, 0), complaint(2, 60, 7), verdict(3, 70, 7, 20)}, days(50, 69, 90, 174)},
	} {
		if l := forceOf(t, withMore(f, x.acts...)); !slices.Equal(l, x.want) {
			t.Errorf("%d: Force with %v = %v, want %v", i, x.acts, l, x.want)
		}
	}
	last := file(100, 0, exam(1, 0, 0), complaint(2, 0, 99), verdict(3, 999, 99, 400))
	if l := forceOf(t, last); !slices.Equal(l, days(0, 998)) {
		t.Errorf("Force with a verdict on the last day = %v", l)
	}
	first := file(100, 0, exam(1, 0, 0), complaint(2, 0, 0), verdict(3, 0, 0, 400))
	if l := forceOf(t, first); !slices.Equal(l, days(400, 999)) {
		t.Errorf("Force with a verdict on the first day = %v", l)
	}
}

// P11.4, P11.11: against a licence day by day.
func TestForceOfMany(t *testing.T) {
	spans, suspended := map[int]int{}, 0
	eachFile(3000, 25, func(_ *rand.Rand, f api.File) {
		l := forceOf(t, f)
		force, fewest := spread(l)
		if force != forceBy(f) || !fewest {
			t.Errorf("Force of %v = %v", f, l)
		}
		held := heldDays(t, f)
		if !within(force, held) {
			t.Errorf("Force of %v = %v is not within Held", f, l)
		}
		spans[len(l)]++
		for day, is := range held {
			if !is || force[day] {
				continue
			}
			suspended++
			if !slices.ContainsFunc(f.Acts, func(x api.Act) bool { return counts(f, x) && x.Day <= day && day < x.Day+x.Size }) {
				t.Errorf("nothing suspends %v on %d", f, day)
			}
		}
	})
	if spans[0] < 200 || spans[1] < 200 || spans[2] < 200 || spans[3] < 100 || suspended < 2000 {
		t.Errorf("so many spans are there: %v; %d days are suspended", spans, suspended)
	}
}

// P11.10: with one more verdict at most Size days of force are lost, from its own day on; none with one more complaint on which there is no verdict.
func TestMoreComplaints(t *testing.T) {
	lost := 0
	eachFile(2000, 20, func(r *rand.Rand, f api.File) {
		before, id := forceDays(t, f), unused(f.Acts)
		x := verdict(id, r.IntN(api.MaxDay+1), r.IntN(4), r.IntN(30))
		if l := heldOf(t, f); len(l) > 0 {
			x.Day = l[0].Low + r.IntN(l[0].High-l[0].Low+1)
		}
		after := forceDays(t, withMore(f, x))
		n := 0
		for day, is := range before {
			if is != after[day] {
				n++
				if !is || day < x.Day || day >= x.Day+x.Size {
					t.Errorf("with %v the day %d of %v changes", x, day, f)
				}
			}
		}
		if n > x.Size {
			t.Errorf("with %v %d days of %v are lost", x, n, f)
		}
		if n > 0 {
			lost++
		}
		// the complaint 9 has no verdict
		if after := forceDays(t, withMore(f, complaint(id, r.IntN(api.MaxDay+1), 9))); after != before {
			t.Errorf("with one more complaint Force of %v changes", f)
		}
	})
	if lost < 200 {
		t.Errorf("days are lost only %d times", lost)
	}
}

// P11.6, P11.12: from when to when complaints are open and late, with 30 days to hear them.
func TestOpen(t *testing.T) {
	x := func(acts ...api.Act) api.File {
		f := file(100, 1, acts...)
		f.Wait = 30
		return f
	}
	at := func(f api.File, wait int) api.File { f.Wait = wait; return f }
	one := x(complaint(1, 50, 7))
	for i, y := range []struct {
		f          api.File
		day        int
		open, late []int
	}{
		{x(), 99, nil, nil}, {one, 0, nil, nil}, {one, 49, nil, nil}, {one, 50, []int{7}, nil}, {one, 80, []int{7}, nil}, {one, 81, []int{7}, []int{7}}, {one, 999, []int{7}, []int{7}},
		// how long one can wait
		{at(one, 0), 50, []int{7}, nil}, {at(one, 0), 51, []int{7}, []int{7}}, {at(one, 949), 999, []int{7}, nil}, {at(one, 948), 999, []int{7}, []int{7}}, {at(one, 999), 999, []int{7}, nil}, {at(x(complaint(1, 0, 0)), 999), 999, []int{0}, nil}, {at(x(complaint(1, 0, 0)), 998), 999, []int{0}, []int{0}},
		// until it is heard, upheld or rejected
		{withMore(one, verdict(2, 90, 7, 9)), 89, []int{7}, []int{7}}, {withMore(one, verdict(2, 90, 7, 9)), 90, nil, nil}, {withMore(one, verdict(2, 90, 7, 0)), 89, []int{7}, []int{7}}, {withMore(one, verdict(2, 90, 7, 0)), 90, nil, nil}, {withMore(one, verdict(2, 90, 7, 0)), 999, nil, nil}, {withMore(one, verdict(2, 50, 7, 0)), 50, nil, nil}, {withMore(one, verdict(2, 50, 7, 0)), 51, nil, nil}, {withMore(one, verdict(2, 90, 7, 0), verdict(3, 95, 7, 9)), 92, nil, nil}, {withMore(one, verdict(3, 95, 7, 9), verdict(2, 90, 7, 0)), 92, nil, nil},
		// not by a verdict that does not count, or one on another complaint
		{withMore(one, verdict(2, 49, 7, 9)), 50, []int{7}, nil}, {withMore(one, verdict(2, 49, 7, 9)), 49, nil, nil}, {withMore(one, verdict(2, 49, 7, 9)), 81, []int{7}, []int{7}}, {withMore(one, verdict(2, 60, 8, 9)), 81, []int{7}, []int{7}}, {withMore(one, verdict(2, 49, 7, 9), verdict(3, 60, 7, 9)), 59, []int{7}, nil}, {withMore(one, verdict(2, 49, 7, 9), verdict(3, 60, 7, 9)), 60, nil, nil},
		// a verdict alone is no complaint
		{x(verdict(1, 50, 7, 9)), 50, nil, nil}, {x(verdict(1, 50, 7, 9)), 99, nil, nil}, {withMore(one, verdict(2, 20, 7, 9)), 45, nil, nil}, {withMore(one, verdict(2, 20, 7, 9)), 51, []int{7}, nil},
		// it waits from the first one of its acts
		{withMore(one, complaint(2, 70, 7)), 81, []int{7}, []int{7}}, {withMore(one, complaint(0, 70, 7)), 81, []int{7}, []int{7}}, {withMore(one, complaint(2, 40, 7)), 70, []int{7}, nil}, {withMore(one, complaint(2, 40, 7)), 71, []int{7}, []int{7}}, {withMore(one, complaint(0, 40, 7)), 45, []int{7}, nil}, {withMore(one, complaint(1, 50, 7)), 50, []int{7}, nil},
		// a complaint that has been heard does not open again
		{withMore(one, verdict(2, 60, 7, 0), complaint(3, 70, 7)), 70, nil, nil}, {withMore(one, verdict(2, 60, 7, 0), complaint(3, 70, 7)), 999, nil, nil}, {withMore(one, verdict(2, 60, 7, 0), complaint(3, 60, 7)), 60, nil, nil}, {x(complaint(3, 70, 7), verdict(2, 60, 7, 5)), 65, nil, nil}, {x(complaint(3, 70, 7), verdict(2, 60, 7, 5)), 70, []int{7}, nil}, {x(complaint(3, 70, 7), verdict(2, 60, 7, 5), complaint(1, 60, 7)), 70, nil, nil},
		// several, in ascending order
		{x(complaint(1, 50, 99), complaint(2, 60, 0), complaint(3, 40, 12)), 60, []int{0, 12, 99}, nil}, {x(complaint(1, 50, 99), complaint(2, 60, 0), complaint(3, 40, 12)), 81, []int{0, 12, 99}, []int{12, 99}}, {x(complaint(1, 50, 99), complaint(2, 60, 0), complaint(3, 40, 12)), 55, []int{12, 99}, nil}, {x(complaint(1, 50, 99), complaint(2, 60, 0), complaint(3, 40, 12), verdict(4, 70, 12, 0)), 81, []int{0, 99}, []int{99}},
		// also without a licence, or with other acts of the same numbers
		{x(complaint(1, 50, 1), exam(2, 50, 1), exam(3, 20, 0), course(4, 50, 9)), 50, []int{1}, nil}, {x(exam(2, 50, 1), course(4, 50, 9)), 50, nil, nil},
	} {
		open, e := licences.Open(y.f, y.day)
		late, g := licences.Late(y.f, y.day)
		if !slices.Equal(open, y.open) || e != api.OK || !slices.Equal(late, y.late) || g != api.OK {
			t.Errorf("%d: Open of %v on %d = %v, %d, Late = %v, %d", i, y.f.Acts, y.day, open, e, late, g)
		}
	}
}

// firstOf is the first day of the acts of a complaint, and firstHeard that of the verdicts on it that count; after all days if there is none.
func firstOf(f api.File, number int) int {
	first := api.MaxDay + 1
	for _, x := range f.Acts {
		if x.Kind == api.Complaint && x.Ref == number {
			first = min(first, x.Day)
		}
	}
	return first
}

func firstHeard(f api.File, number int) int {
	first := api.MaxDay + 1
	for _, x := range f.Acts {
		if x.Kind == api.Verdict && x.Ref == number && x.Day >= firstOf(f, number) {
			first = min(first, x.Day)
		}
	}
	return first
}

// P11.6, P11.12: against the first days of complaints and verdicts.
func TestOpenOfMany(t *testing.T) {
	opened, waited, heard := 0, 0, 0
	eachFile(1000, 25, func(r *rand.Rand, f api.File) {
		for range 20 {
			day := r.IntN(api.MaxDay + 1)
			if len(f.Acts) > 0 && r.IntN(4) > 0 {
				day = min(api.MaxDay, f.Acts[r.IntN(len(f.Acts))].Day+r.IntN(20))
			}
			var open, late []int
			for number := range api.MaxComplaint + 1 {
				first, end := firstOf(f, number), firstHeard(f, number)
				if first <= day && end <= day {
					heard++
				}
				if first <= day && day < end {
					open = append(open, number)
					if first+f.Wait < day {
						late = append(late, number)
					}
				}
			}
			if l := openOf(t, f, day); !slices.Equal(l, open) {
				t.Errorf("Open of %v on %d = %v, want %v", f, day, l, open)
			}
			if l := lateOf(t, f, day); !slices.Equal(l, late) {
				t.Errorf("Late of %v on %d = %v, want %v", f, day, l, late)
			}
			opened, waited = opened+len(open), waited+len(late)
		}
	})
	if opened < 2000 || waited < 500 || heard < 2000 {
		t.Errorf("%d complaints are open, %d late, %d heard", opened, waited, heard)
	}
}
