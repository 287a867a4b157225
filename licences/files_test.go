package licences_test

import (
	"math"
	"math/rand/v2"
	"slices"
	"testing"

	"handshape/api"
	"handshape/licences"
)

// many are so many different courses with Ids from 0 on.
func many(n int) []api.Act {
	var l []api.Act
	for id := range n {
		l = append(l, course(id, 10*id, 1))
	}
	return l
}

// validFiles has files with each number at its bounds, and with the fewest and the most of each list.
func validFiles() []api.File {
	l := []api.File{fileX(), file(1, 0), {Term: 1}, {Term: 400, Grade: 5, Points: 100, Wait: 999}, file(30, 1, many(30)...), file(30, 1, slices.Repeat(many(1), 30)...)}
	for _, change := range []func(f *api.File){
		func(f *api.File) { f.Term = 1 }, func(f *api.File) { f.Term = 400 }, func(f *api.File) { f.Grade = 0 }, func(f *api.File) { f.Grade = 5 },
		func(f *api.File) { f.Points = 0 }, func(f *api.File) { f.Points = 100 }, func(f *api.File) { f.Wait = 0 }, func(f *api.File) { f.Wait = 999 },
		func(f *api.File) { f.Papers = slices.Repeat(f.Papers, 3) }, func(f *api.File) { f.Papers, f.Acts = nil, nil },
		// an exam that is there twice, and papers without exams
		func(f *api.File) { f.Acts = append(f.Acts, f.Acts[0], f.Acts[7]) }, func(f *api.File) { f.Acts = f.Acts[1:3] },
	} {
		l = append(l, changedX(change))
	}
	for _, x := range []api.Act{
		exam(0, 0, 0), exam(99, 999, 1), course(0, 0, 0), course(99, 999, 100), complaint(0, 0, 0), complaint(99, 999, 99), verdict(0, 0, 0, 0), verdict(99, 999, 99, 400),
	} {
		l = append(l, withActs(fileX(), x))
	}
	return l
}

// invalidActs has acts with each number just beyond its bounds, for a file with two papers.
func invalidActs() []api.Act {
	var l []api.Act
	for _, x := range []api.Act{exam(1, 1, 1), course(1, 1, 1), complaint(1, 1, 1), verdict(1, 1, 1, 1)} {
		for _, n := range []int{-1, math.MinInt, math.MaxInt} {
			for _, change := range []func(x *api.Act){func(x *api.Act) { x.Id = n }, func(x *api.Act) { x.Day = n }, func(x *api.Act) { x.Kind = n }, func(x *api.Act) { x.Ref = n }, func(x *api.Act) { x.Size = n }} {
				y := x
				change(&y)
				l = append(l, y)
			}
		}
		for _, change := range []func(x *api.Act){func(x *api.Act) { x.Id = 100 }, func(x *api.Act) { x.Day = 1000 }, func(x *api.Act) { x.Kind = 0 }, func(x *api.Act) { x.Kind = 5 }} {
			y := x
			change(&y)
			l = append(l, y)
		}
	}
	return append(l,
		api.Act{}, exam(1, 1, 2), exam(1, 1, 99), course(1, 1, 101), complaint(1, 1, 100), verdict(1, 1, 100, 0), verdict(1, 1, 1, 401),
		// what is not named for a kind is 0
		api.Act{Id: 1, Day: 1, Kind: api.Exam, Size: 1}, api.Act{Id: 1, Day: 1, Kind: api.Course, Ref: 1, Size: 1}, api.Act{Id: 1, Day: 1, Kind: api.Complaint, Ref: 1, Size: 1},
	)
}

// invalidFiles has the file X for each bound, just beyond it.
func invalidFiles() []api.File {
	l := []api.File{{}, withActs(api.File{Term: 1}, exam(1, 1, 0))}
	for _, n := range []int{math.MinInt, -1, 401, 1000, math.MaxInt} {
		l = append(l, changedX(func(f *api.File) { f.Term = n }), changedX(func(f *api.File) { f.Grade = n }), changedX(func(f *api.File) { f.Points = n }))
	}
	for _, change := range []func(f *api.File){
		func(f *api.File) { f.Term = 0 }, func(f *api.File) { f.Grade = 6 }, func(f *api.File) { f.Points = 101 },
		func(f *api.File) { f.Wait = -1 }, func(f *api.File) { f.Wait = 1000 }, func(f *api.File) { f.Wait = math.MinInt }, func(f *api.File) { f.Wait = math.MaxInt },
		func(f *api.File) { f.Papers = slices.Repeat(f.Papers[:1], 7); f.Acts = nil }, func(f *api.File) { f.Papers = slices.Repeat(f.Papers, 500) },
		// papers that are not valid, or have no possible truth, also without exams
		func(f *api.File) { f.Papers[0] = api.Paper{} }, func(f *api.File) { f.Papers[1].Wrong = 3 }, func(f *api.File) { f.Papers[1] = contradictory() }, func(f *api.File) { f.Papers[0] = contradictory(); f.Acts = nil },
		// an exam has no paper any more
		func(f *api.File) { f.Papers = f.Papers[:1] }, func(f *api.File) { f.Papers = nil },
		func(f *api.File) { f.Acts = many(31) }, func(f *api.File) { f.Acts = slices.Repeat(many(1), 31) }, func(f *api.File) { f.Acts = slices.Repeat(many(10), 100) },
	} {
		l = append(l, changedX(change))
	}
	for _, x := range invalidActs() {
		l = append(l, withActs(fileX(), x), withMore(fileX(), x))
	}
	return l
}

// clashing are acts of which two clash: they have the same Id, and differ in one thing.
func clashing() [][]api.Act {
	return [][]api.Act{
		{exam(3, 50, 0), exam(3, 51, 0)}, {exam(3, 50, 0), exam(3, 50, 1)}, {course(3, 50, 0), exam(3, 50, 0)}, {course(3, 50, 7), course(3, 50, 8)}, {complaint(3, 50, 1), complaint(3, 50, 2)},
		{verdict(3, 50, 1, 5), verdict(3, 50, 1, 6)}, {verdict(3, 50, 1, 5), verdict(3, 50, 2, 5)}, {complaint(3, 50, 1), verdict(3, 50, 1, 0)},
		{course(3, 50, 7), course(4, 50, 7), course(4, 50, 7), course(3, 50, 7), course(3, 49, 7)}, {course(0, 50, 7), course(99, 50, 7), course(99, 50, 7), course(0, 50, 6)},
	}
}

// P11.1
func TestCheck(t *testing.T) {
	for i, f := range validFiles() {
		if e := licences.Check(f); e != api.OK {
			t.Errorf("%d: Check of %v = %d", i, f, e)
		}
	}
	for i, f := range invalidFiles() {
		if e := licences.Check(f); e != api.ErrFile {
			t.Errorf("%d: Check of %v = %d", i, f, e)
		}
		// also if acts clash
		f.Acts = append(clashing()[0], f.Acts...)
		if e := licences.Check(f); e != api.ErrFile {
			t.Errorf("%d: Check of %v = %d", i, f, e)
		}
	}
	for i, l := range clashing() {
		for range 2 {
			if e := licences.Check(withActs(fileX(), l...)); e != api.ErrActs {
				t.Errorf("%d: Check of X with the acts %v = %d", i, l, e)
			}
			slices.Reverse(l)
		}
	}
}

// P11.2: files that can be merged.
func TestMerge(t *testing.T) {
	x := fileX()
	byId := slices.Clone(x.Acts)
	byId[5], byId[6] = x.Acts[5], x.Acts[6]
	a, b, c := course(1, 5, 1), course(2, 4, 1), verdict(50, 3, 9, 7)
	for i, y := range []struct {
		f    api.File
		more []api.Act
		want []api.Act
	}{
		{x, nil, byId}, {x, []api.Act{}, byId}, {x, slices.Clone(x.Acts), byId}, {x, []api.Act{c}, append(slices.Clone(byId), c)},
		{withActs(x), nil, nil}, {withActs(x), []api.Act{c, a, b}, []api.Act{a, b, c}}, {withActs(x, c, b), []api.Act{a}, []api.Act{a, b, c}}, {withActs(x, c, c, a, c), []api.Act{b, a, b}, []api.Act{a, b, c}},
		// equal ones do not count for the limit of different ones
		{file(9, 0, slices.Repeat(many(1), 30)...), slices.Repeat(many(2), 15), many(2)}, {file(9, 0, many(30)...), many(30), many(30)}, {file(9, 0, many(29)...), []api.Act{many(30)[29]}, many(30)}, {file(9, 0), many(30), many(30)},
		// a course with another Id is another one
		{file(9, 0, course(2, 8, 3)), []api.Act{course(1, 8, 3)}, []api.Act{course(1, 8, 3), course(2, 8, 3)}},
	} {
		g, e := licences.Merge(y.f, y.more)
		if e != api.OK || !sameFile(g, withActs(y.f, y.want...)) {
			t.Errorf("%d: Merge of %v and %v = %v, %d", i, y.f, y.more, g, e)
		}
	}
}

// P11.2, R1, R2: the order of the errors of Merge.
func TestErrorsOfMerge(t *testing.T) {
	x, some := fileX(), []api.Act{course(50, 1, 1)}
	clash := clashing()[0]
	bad := invalidActs()[0]
	for i, y := range []struct {
		f    api.File
		more []api.Act
		want api.Errno
	}{
		// the errors of the file come first
		{api.File{}, some, api.ErrFile}, {withActs(x, bad), clash, api.ErrFile}, {withActs(x, clash...), []api.Act{bad}, api.ErrActs}, {withActs(x, clash...), many(31), api.ErrActs}, {withActs(x, clash...), nil, api.ErrActs},
		// then what more are
		{x, []api.Act{bad}, api.ErrFile}, {x, many(31), api.ErrFile}, {x, slices.Repeat(some, 31), api.ErrFile}, {x, append(clash, bad), api.ErrFile}, {file(9, 0, many(30)...), append(clash, bad), api.ErrFile},
		{x, []api.Act{exam(60, 1, 2)}, api.ErrFile}, {withActs(api.File{Term: 1}), []api.Act{exam(60, 1, 0)}, api.ErrFile},
		{x, clash, api.ErrActs}, {file(9, 0, many(30)...), clash, api.ErrActs}, {file(9, 0, many(30)...), append(many(28), course(90, 1, 1), course(90, 1, 2)), api.ErrActs},
		// then all together: too many different ones, before those that clash
		{file(9, 0, many(30)...), some, api.ErrMany}, {file(9, 0, many(29)...), []api.Act{course(50, 1, 1), course(51, 1, 1)}, api.ErrMany}, {file(9, 0, many(30)...), []api.Act{course(0, 0, 2)}, api.ErrMany}, {file(9, 0, many(29)...), []api.Act{course(0, 0, 2), course(98, 0, 2)}, api.ErrMany},
		{file(9, 0, many(29)...), []api.Act{course(0, 0, 2)}, api.ErrActs}, {x, []api.Act{course(1, 50, 0)}, api.ErrActs}, {x, []api.Act{exam(8, 300, 0)}, api.ErrActs}, {x, []api.Act{course(6, 260, 9), course(6, 260, 9)}, api.OK},
	} {
		g, e := licences.Merge(y.f, y.more)
		if e != y.want || e != api.OK && !sameFile(g, api.File{}) {
			t.Errorf("%d: Merge of %v and %v = %v, %d, want error %d", i, y.f, y.more, g, e, y.want)
		}
	}
}

// P11.8: no result depends on the order of the acts, nor on how often each of them comes.
func TestInAnyOrder(t *testing.T) {
	eachFile(400, 20, func(r *rand.Rand, f api.File) {
		id, from := unused(f.Acts), r.IntN(api.MaxDay)
		more := []api.Act{drawAct(r, id, api.MaxDay, 1)}
		offers := []api.Offer{offer(r.IntN(api.MaxDay), 5, 1), offer(from, 5, 2)}
		day, until := r.IntN(api.MaxDay+1), from+r.IntN(api.MaxDay-from)
		want := resultsOf(f, more, day, offers, from, until)
		twice := slices.Concat(f.Acts, f.Acts[:min(len(f.Acts), api.MaxActs-len(f.Acts))])
		got := resultsOf(withActs(f, shuffled(r, twice)...), slices.Repeat(more, 3), day, offers, from, until)
		if !got.same(want) {
			t.Errorf("of %v in another order: %v, want %v", f, got, want)
		}
	})
}

// P11.8: Merge is the same for a file with some acts and the others as more.
func TestMergeInParts(t *testing.T) {
	eachFile(400, 20, func(r *rand.Rand, f api.File) {
		all, e := licences.Merge(f, nil)
		if !slices.IsSortedFunc(all.Acts, func(x, y api.Act) int { return x.Id - y.Id }) || len(all.Acts) != len(f.Acts) {
			t.Errorf("Merge of %v and nothing = %v, %d", f, all, e)
		}
		some := shuffled(r, f.Acts)
		cut := r.IntN(len(some) + 1)
		got, g := licences.Merge(withActs(f, some[:cut]...), slices.Concat(some[cut:], some[:min(cut, 10)]))
		if e != api.OK || g != api.OK || !sameFile(got, all) {
			t.Errorf("Merge of %v in parts = %v, %d, want %v, %d", f, got, g, all, e)
		}
	})
}

// badDays are no days.
var badDays = []int{-1, 1000, 1001, math.MinInt, math.MaxInt}

// badOffers has offers with each number just beyond its bounds, and too many of them.
func badOffers() [][]api.Offer {
	l := [][]api.Offer{slices.Repeat(offersX()[:1], 9), make([]api.Offer, 1000)}
	for _, n := range []int{-1, math.MinInt, math.MaxInt} {
		l = append(l, []api.Offer{offer(n, 1, 1)}, []api.Offer{offer(1, n, 1)}, []api.Offer{offer(1, 1, n)})
	}
	return append(l, []api.Offer{offer(1000, 1, 1)}, []api.Offer{offer(1, 101, 1)}, []api.Offer{offer(1, 1, 10001)}, append(offersX(), offer(-1, 0, 0)))
}

// P1, R1, R2: the errors of the file and of its acts come before those of days and offers.
func TestErrorsOfFiles(t *testing.T) {
	check := func(f api.File, want api.Errno) {
		for _, day := range []int{0, 60, -1, 1000, math.MinInt, math.MaxInt} {
			for _, offers := range [][]api.Offer{nil, offersX(), badOffers()[0], badOffers()[2]} {
				got := resultsOf(f, []api.Act{course(50, 1, 1)}, day, offers, day, 60)
				if !got.isZero() || !slices.Equal(got.errors, slices.Repeat([]api.Errno{want}, 8)) {
					t.Errorf("of %v, %d and %v: %v", f, day, offers, got)
				}
			}
		}
	}
	for _, f := range invalidFiles() {
		check(f, api.ErrFile)
	}
	for _, l := range clashing() {
		check(withActs(fileX(), l...), api.ErrActs)
	}
}

// P11.5, P11.6, R1, R2: numbers that are no days; their error comes before that of a licence that is not held.
func TestErrorsOfDays(t *testing.T) {
	for _, f := range []api.File{fileX(), withActs(fileX()), {Term: 1}} {
		for _, day := range badDays {
			got := resultsOf(f, nil, day, nil, 0, 0)
			if want := []api.Errno{api.OK, api.OK, api.OK, api.OK, api.ErrArg, api.ErrArg, api.ErrArg, api.ErrNone}; !got.isZero() || !slices.Equal(got.errors, want) {
				t.Errorf("of %v on the day %d: %v", f, day, got)
			}
		}
		for day, want := range map[int]api.Errno{0: api.ErrNone, 49: api.ErrNone, 250: api.ErrNone, 999: api.ErrNone} {
			got := resultsOf(f, nil, day, nil, 0, 0)
			if !got.isZero() || got.errors[4] != want || got.errors[5] != api.OK || got.errors[6] != api.OK {
				t.Errorf("of %v on the day %d: %v", f, day, got)
			}
		}
	}
}

// P11.7, R1, R2: the errors of Plan; ErrArg comes before ErrNone.
func TestErrorsOfPlan(t *testing.T) {
	type plan struct {
		offers      []api.Offer
		from, until int
		want        api.Errno
	}
	l := []plan{
		{nil, 50, 249, api.OK}, {nil, 50, 50, api.OK}, {nil, 249, 249, api.OK}, {nil, 51, 50, api.ErrArg}, {nil, 999, 0, api.ErrArg}, {nil, 50, 250, api.ErrNone}, {nil, 49, 249, api.ErrNone}, {nil, 0, 999, api.ErrNone}, {nil, 0, 0, api.ErrNone}, {nil, 999, 999, api.ErrNone},
		{slices.Repeat(offersX()[:1], 8), 50, 249, api.OK}, {[]api.Offer{offer(0, 0, 0), offer(999, 100, 10000)}, 50, 249, api.OK},
	}
	for _, day := range badDays {
		l = append(l, plan{nil, day, 249, api.ErrArg}, plan{nil, 50, day, api.ErrArg}, plan{nil, day, day, api.ErrArg}, plan{offersX(), 50, day, api.ErrArg})
	}
	for _, offers := range badOffers() {
		l = append(l, plan{offers, 50, 249, api.ErrArg}, plan{offers, 0, 0, api.ErrArg}, plan{offers, 60, 50, api.ErrArg})
	}
	for _, x := range l {
		if set, price, e := licences.Plan(fileX(), x.offers, x.from, x.until); e != x.want || set != 0 || price != 0 {
			t.Errorf("Plan of %v from %d to %d = %d, %d, %d, want error %d", x.offers, x.from, x.until, set, price, e, x.want)
		}
	}
}

// P1: extreme numbers and long slices lead to an error or to a result, never to a panic.
func TestAnyArguments(t *testing.T) {
	r := chance()
	number := func() int {
		return []int{math.MinInt, math.MinInt + 1, -2, -1, 0, 0, 0, 1, 1, 2, 3, 4, 5, 6, 8, 30, 99, 100, 400, 999, 1000, 1 << 40, math.MaxInt}[r.IntN(23)]
	}
	acts := func() []api.Act {
		l := make([]api.Act, r.IntN(33))
		for i := range l {
			l[i] = api.Act{Id: number(), Day: number(), Kind: number(), Ref: number(), Size: number()}
		}
		return l
	}
	for range 2000 {
		x := api.File{Papers: slices.Repeat([]api.Paper{paperP()}, r.IntN(8)), Term: number(), Grade: number(), Points: number(), Wait: number(), Acts: acts()}
		y := changedX(func(f *api.File) {
			f.Acts = append(f.Acts, api.Act{Id: 90, Day: number(), Kind: 1 + r.IntN(4), Ref: number()})
		})
		z := changedX(func(f *api.File) { f.Term, f.Points, f.Papers[0].Wrong = number(), number(), number() })
		offers := []api.Offer{offer(number(), number(), number()), offer(200, 5, 5), offer(number(), 5, 5)}[:r.IntN(4)]
		for _, f := range []api.File{{}, x, y, z, fileX()} {
			for _, more := range [][]api.Act{nil, acts(), {api.Act{Id: 91, Day: number(), Kind: number()}}} {
				if got := resultsOf(f, more, number(), offers, number(), number()); !got.isZero() {
					t.Errorf("of %v and %v: %v", f, more, got)
				}
			}
		}
	}
}

// R4: the arguments stay as they are.
func TestArgumentsStay(t *testing.T) {
	// slices with room behind their ends, so that what is added there would be seen
	f := fileX()
	acts, papers := append(f.Acts, course(98, 98, 98)), append(f.Papers, api.Paper{Wrong: 98})
	f.Acts, f.Papers = acts[:8], papers[:2]
	slices.Reverse(f.Acts)
	want := copied(f)
	more := []api.Act{course(97, 97, 97), course(60, 1, 1), course(96, 96, 96)}
	offers := append(offersX(), offer(97, 97, 97))
	first := resultsOf(f, more[:2], 165, offers[:3], 50, 300)
	for _, l := range [][]api.Span{first.held, first.force} {
		clear(l)
	}
	clear(first.open)
	if !sameFile(f, want) || acts[8] != course(98, 98, 98) || papers[2].Wrong != 98 {
		t.Errorf("the file is changed: %v, %v, %v", f, acts, papers)
	}
	if !slices.Equal(more, []api.Act{course(97, 97, 97), course(60, 1, 1), course(96, 96, 96)}) || !slices.Equal(offers, append(offersX(), offer(97, 97, 97))) {
		t.Errorf("the arguments are changed: %v, %v", more, offers)
	}
	// nor is anything kept from call to call
	if again := resultsOf(fileX(), nil, 165, offersX(), 50, 300); !slices.Equal(again.held, days(50, 249)) || !slices.Equal(again.open, []int{7}) || again.set != 3 || again.price != 55 {
		t.Errorf("of another call: %v", again)
	}
}

// R4: a merged file shares no memory with the arguments, nor do its own slices with each other.
func TestMergedMemory(t *testing.T) {
	f := fileX()
	f.Papers[1] = f.Papers[0]
	more := []api.Act{course(60, 1, 1)}
	want := copied(f)
	merged, e := licences.Merge(f, more)
	p, q := merged.Papers[0], merged.Papers[1]
	if p.Items[0].Weight, p.Judges[0].Error, p.Judges[1].Marks[0], p.Grades[0] = 9, 5, 0, 1; q.Items[0].Weight == 9 || q.Judges[0].Error == 5 || q.Judges[1].Marks[0] == 0 || q.Grades[0] == 1 {
		t.Errorf("two papers of a merged file, error %d, share memory: %v", e, q)
	}
	merged.Papers[0].Wrong = 2
	clear(merged.Acts)
	if !sameFile(f, want) || more[0] != course(60, 1, 1) {
		t.Errorf("a change of the merged file changes %v, %v", f, more)
	}
}
