package desks_test

import (
	"math"
	"math/rand/v2"
	"slices"
	"strings"
	"testing"

	"handshape/api"
	"handshape/desks"
)

// TestExamples has the table of the chapter's examples, with what is held in the end.
func TestExamples(t *testing.T) {
	held := testExchanges(t, serviceV(), []exchange{
		{"0 entry 1 10 3 -1 -1 2 0 3 0 60 1 2", "ok"}, {"1 entry 2 20 -1 3 1 2 0 6 40 120 7 6", "ok"},
		{"0 order", "1"}, {"1 send 0", "ok"}, {"0 order", "1 2"}, {"0 twins", "10 20"}, {"1 twins", "none"},
		{"0 gloss 0 1 0 0 6 3", "ok"}, {"0 read 0", "0 6 1"}, {"1 gloss 0 2 0 5 7 1", "ok"}, {"1 send 0", "ok"}, {"0 read 0", "5 7 1"},
		{"0 shift 1 5 1 0 3", "ok"}, {"0 teams", "8 0 0"}, {"0 served", "0"}, {"0 totals", "310 0"},
		{"0 call 1 0 -940", "ok"}, {"0 totals", "0 0"}, {"1 totals", "0 0"},
		{"1 shift 1 6 1 0 3", "ok"}, {"0 send 1", "clash"}, {"1 send 1", "no"},
	}...)
	canon := api.Form{Right: 3, Left: -1, Column: -1, Row: 2, Moves: []int{1, 2}}
	first := api.Entry{Id: 1, Sign: 10, Form: canon, Regions: 3, Ages: span(0, 60)}
	second := api.Entry{Id: 2, Sign: 20, Form: canon, Regions: 6, Ages: span(40, 120)}
	early, late := api.Gloss{Stamp: 1, To: 6, Signs: 3}, api.Gloss{Stamp: 2, From: 5, To: 7, Signs: 1}
	want := []api.Desk{
		{
			Entries: []api.Entry{first, second}, Glosses: []api.Gloss{early, late},
			Shifts: []api.Shift{{Id: 1, Stamp: 5, Kind: api.Assign, Person: 3}}, Calls: []api.Call{{Id: 1, Minute: -940}},
		},
		{Entries: []api.Entry{second}, Glosses: []api.Gloss{late}, Shifts: []api.Shift{{Id: 1, Stamp: 6, Kind: api.Assign, Person: 3}}},
	}
	if !slices.EqualFunc(held, want, sameDesk) {
		t.Errorf("the desks hold %v", held)
	}
}

// TestExampleOfWrite is the last row of the table, and the row of package desks in the document's section Examples.
func TestExampleOfWrite(t *testing.T) {
	if text, e := desks.Write([]string{"ab"}); text != "02abn\n9901\n" || e != api.OK {
		t.Errorf("Write: %q, %d", text, e)
	}
}

// changedV is the service V with a change.
func changedV(change func(s *api.Service)) api.Service {
	s := serviceV()
	change(&s)
	return s
}

// invalidServices has a service for each way not to be valid.
func invalidServices() []api.Service {
	return []api.Service{
		{}, withDesks(0), withDesks(-1), withDesks(4), withDesks(math.MaxInt), withDesks(math.MinInt),
		changedV(func(s *api.Service) { s.Films.Frames = nil }), changedV(func(s *api.Service) { s.Films.Frames[1] = 201 }),
		changedV(func(s *api.Service) { s.Films.Signs = 0 }), changedV(func(s *api.Service) { s.Films.Signs = 11 }),
		changedV(func(s *api.Service) { s.Ledger.Day.Crew.Laws = nil }), changedV(func(s *api.Service) { s.Ledger.Day.Bookings[0].Job.Size = 0 }),
		changedV(func(s *api.Service) { s.Ledger.Day.Rest = -1 }), changedV(func(s *api.Service) { s.Ledger.Payers = nil }),
		changedV(func(s *api.Service) { s.Ledger.Tariff.Unit = 0 }),
		changedV(func(s *api.Service) { s.Ledger.Day.Shifts = []api.Shift{{Id: 1, Kind: api.Assign}} }),
		changedV(func(s *api.Service) { s.Ledger.Day.Shifts = make([]api.Shift, 1) }),
		changedV(func(s *api.Service) { s.Ledger.Calls = []api.Call{{Id: 1}} }),
		changedV(func(s *api.Service) { s.Ledger.Calls = []api.Call{{Id: -1}} }),
	}
}

// P12.1
func TestCheck(t *testing.T) {
	empty := changedV(func(s *api.Service) { s.Ledger.Day.Shifts, s.Ledger.Calls = []api.Shift{}, []api.Call{} })
	for i, s := range []api.Service{serviceV(), withDesks(1), withDesks(3), withoutBookings(), empty} {
		if e := desks.Check(s); e != api.OK {
			t.Errorf("%d: Check = %d", i, e)
		}
	}
	for i, s := range invalidServices() {
		if e := desks.Check(s); e != api.ErrService {
			t.Errorf("%d: Check = %d", i, e)
		}
	}
}

// P12.2: with its errors, of which that of the service comes first.
func TestRunErrors(t *testing.T) {
	full := slices.Repeat([]string{"0 order"}, 60)
	long := append(full, "0 order")
	for i, s := range invalidServices() {
		for _, script := range [][]string{nil, full, long} {
			if answers, held, e := desks.Run(s, script); e != api.ErrService || answers != nil || held != nil {
				t.Errorf("%d: Run = %q, %v, %d", i, answers, held, e)
			}
		}
	}
	if answers, held, e := desks.Run(serviceV(), long); e != api.ErrMany || answers != nil || held != nil {
		t.Errorf("Run of 61 lines = %q, %v, %d", answers, held, e)
	}
	if answers, _ := run(t, serviceV(), full); slices.ContainsFunc(answers, func(a string) bool { return a != "none" }) {
		t.Errorf("Run of 60 lines = %q", answers)
	}
}

// P12.2: without lines all desks hold nothing.
func TestRunOfNothing(t *testing.T) {
	for n := 1; n <= api.MaxDesks; n++ {
		for _, script := range [][]string{nil, {}} {
			_, held := run(t, withDesks(n), script)
			if slices.ContainsFunc(held, func(d api.Desk) bool { return messagesIn(d) > 0 }) {
				t.Errorf("Run of nothing: %v", held)
			}
		}
	}
}

// P1: any service and any lines lead to an error or to a result, never to a panic.
func TestAnyArguments(t *testing.T) {
	r := chance()
	number := func() int {
		return []int{math.MinInt, -1, 0, 1, 2, 3, 9, 300, math.MaxInt}[r.IntN(9)]
	}
	word := func() string {
		return []string{"", "0", "1", "-0", "order", "entry", "gloss", "send", "read", "\x00", "\xff\xfe", "é", "1000000", "9223372036854775808", "\n", "\t1"}[r.IntN(16)]
	}
	for range 3000 {
		s := changedV(func(s *api.Service) {
			s.Films.Signs, s.Ledger.Day.Limit, s.Desks = []int{5, number()}[r.IntN(2)], []int{140, number()}[r.IntN(2)], number()
			s.Ledger.Day.Bookings = s.Ledger.Day.Bookings[:r.IntN(4)]
			n := r.IntN(4)
			s.Ledger.Payers, s.Ledger.Trips = s.Ledger.Payers[:n], s.Ledger.Trips[:n]
		})
		var script []string
		for range r.IntN(70) {
			var words []string
			for range r.IntN(5) {
				words = append(words, word())
			}
			script = append(script, strings.Join(words, " "))
		}
		desks.Check(s)
		desks.Run(s, script)
		text, _ := desks.Write(script)
		desks.Read(text)
		desks.Read(strings.Join(script, "\n"))
	}
	long := []string{strings.Repeat(" ", 1<<20), "0 order" + strings.Repeat(" 1", 1<<20), strings.Repeat("9", 1<<20) + " order", "0 read " + strings.Repeat("9", 1<<20)}
	testExchanges(t, serviceV(), exchange{long[0], "?"}, exchange{long[1], "?"}, exchange{long[2], "?"}, exchange{long[3], "?"})
	desks.Read(strings.Repeat("00a\n", 1<<18))
}

// copied is the service V in new memory, whose every slice has room left.
func copied(s api.Service) api.Service {
	grown := func(l []int) []int { return slices.Grow(slices.Clone(l), 9) }
	s.Films.Frames = grown(s.Films.Frames)
	l := &s.Ledger
	l.Payers, l.Trips, l.Tariff.Subsidy = grown(l.Payers), grown(l.Trips), grown(l.Tariff.Subsidy)
	l.Tariff.Notices = slices.Grow(slices.Clone(l.Tariff.Notices), 9)
	l.Day.Shifts, l.Calls = make([]api.Shift, 0, 40), make([]api.Call, 0, 40)
	l.Day.Bookings = slices.Grow(slices.Clone(l.Day.Bookings), 9)
	return s
}

// R4: the arguments stay as they are, and the elements beyond their ends, too.
func TestArgumentsStay(t *testing.T) {
	eachScript(100, func(_ *rand.Rand, s api.Service, script []string) {
		given := copied(s)
		lines := slices.Clone(script)
		desks.Run(given, lines)
		desks.Write(lines)
		shifts, calls := given.Ledger.Day.Shifts[:40], given.Ledger.Calls[:40]
		blank := !slices.ContainsFunc(shifts, func(x api.Shift) bool { return x != api.Shift{} }) && !slices.ContainsFunc(calls, func(x api.Call) bool { return x != api.Call{} })
		same := slices.Equal(given.Films.Frames, s.Films.Frames) && slices.Equal(given.Ledger.Day.Bookings, s.Ledger.Day.Bookings) && slices.Equal(given.Ledger.Payers, s.Ledger.Payers)
		if !blank || !same || len(given.Ledger.Day.Shifts)+len(given.Ledger.Calls) > 0 || !slices.Equal(lines, script) {
			t.Errorf("Run of %q changes its arguments: %v, %q", script, given, lines)
		}
	})
}

// deepCopy is what a desk holds in new memory.
func deepCopy(d api.Desk) api.Desk {
	d.Entries, d.Glosses, d.Shifts, d.Calls = slices.Clone(d.Entries), slices.Clone(d.Glosses), slices.Clone(d.Shifts), slices.Clone(d.Calls)
	for i := range d.Entries {
		d.Entries[i].Form.Moves = slices.Clone(d.Entries[i].Form.Moves)
	}
	return d
}

// scribble changes all that a desk holds, and what is beyond it in memory.
func scribble(d api.Desk) {
	for i := range d.Entries {
		d.Entries[i].Id = -7
		moves := d.Entries[i].Form.Moves
		for j := range moves[:cap(moves)] {
			moves[:cap(moves)][j] = -7
		}
	}
	for i := range d.Glosses {
		d.Glosses[i].Author = -7
	}
	for i := range d.Shifts {
		d.Shifts[i].Id = -7
	}
	for i := range d.Calls {
		d.Calls[i].Id = -7
	}
}

// R4: no two desks share memory.
func TestDesksAreNewMemory(t *testing.T) {
	eachScript(150, func(_ *rand.Rand, s api.Service, script []string) {
		_, held := run(t, s, script)
		for i := range held {
			var before []api.Desk
			for _, d := range held {
				before = append(before, deepCopy(d))
			}
			scribble(held[i])
			for j := range held {
				if j != i && !sameDesk(held[j], before[j]) {
					t.Errorf("a change of the desk %d changes the desk %d after %q", i, j, script)
				}
			}
		}
	})
}

// Run keeps nothing between calls: the same script has the same answers again.
func TestRunAgain(t *testing.T) {
	eachScript(100, func(_ *rand.Rand, s api.Service, script []string) {
		answers, held := run(t, s, script)
		again, heldAgain := run(t, s, script)
		if !slices.Equal(answers, again) || !slices.EqualFunc(held, heldAgain, sameDesk) {
			t.Errorf("Run of %q: %q, then %q", script, answers, again)
		}
	})
}
