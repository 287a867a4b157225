package desks_test

import (
	"math/rand/v2"
	"slices"
	"testing"

	"handshape/api"
	"handshape/bills"
	"handshape/glosses"
	"handshape/rosters"
	"handshape/signs"
)

// kind is one of the four kinds of messages: how many of them a desk can hold, and the line that writes one at a desk. Lines with the same number and another variant clash.
type kind struct {
	most  int
	write func(desk, number, variant int) string
}

var kinds = map[string]kind{
	"entry": {api.MaxEntries, func(desk, number, variant int) string {
		return written(desk, "entry", number, variant, 1, -1, 0, 0, 0, 1, 0, 9)
	}},
	"gloss": {api.MaxGlosses, func(desk, number, variant int) string {
		return written(desk, "gloss", number%8, number, 0, 0, 6, variant)
	}},
	"shift": {api.MaxShifts, func(desk, number, variant int) string {
		return written(desk, "shift", number, variant, api.Assign, 0, 3)
	}},
	"call": {api.MaxCalls, func(desk, number, variant int) string { return written(desk, "call", number, 0, variant) }},
}

// lines writes messages with the numbers from first to the one before end.
func (k kind) lines(desk, first, end int) []exchange {
	var l []exchange
	for number := first; number < end; number++ {
		l = append(l, exchange{k.write(desk, number, 1), "ok"})
	}
	return l
}

// P12.2: a desk holds at most so many messages of a kind; too many come before a clash, and what is held already before both, but an entry clashes with its Id.
func TestFullDesk(t *testing.T) {
	for word, k := range kinds {
		more := exchange{k.write(0, k.most, 1), "full"}
		again, other := exchange{k.write(0, k.most-1, 1), "old"}, exchange{k.write(0, k.most-1, 2), "full"}
		if word == "entry" {
			other.answer = "clash"
		}
		script := append(k.lines(0, 0, k.most-1), exchange{k.write(0, 0, 2), "clash"}, exchange{k.write(0, 0, 1), "old"}, exchange{k.write(0, k.most-1, 1), "ok"})
		held := testExchanges(t, serviceV(), append(script, more, again, other, exchange{k.write(1, k.most, 1), "ok"}, more)...)
		if messagesIn(held[0]) != k.most || messagesIn(held[1]) != 1 {
			t.Errorf("%s: the desks hold %v", word, held)
		}
	}
}

// P12.2: a message that a desk holds already is old, an entry also with its mirror form; one with the same Id, or author and stamp, that is not the same clashes.
func TestOldAndClash(t *testing.T) {
	testExchanges(t, serviceV(), []exchange{
		{"0 entry 1 10 3 -1 -1 2 0 3 0 60 1 2", "ok"}, {"0 entry 1 10 -1 3 1 2 0 3 0 60 7 6", "old"}, {"0 entry 1 10 3 -1 -1 2 0 3 0 60 1 2", "old"},
		{"0 entry 1 10 3 -1 1 2 0 3 0 60 1 2", "clash"}, {"0 entry 1 10 3 -1 -1 2 0 3 0 60 1", "clash"}, {"0 entry 1 10 3 -1 -1 2 0 3 1 60 1 2", "clash"}, {"0 entry 1 11 3 -1 -1 2 0 3 0 60 1 2", "clash"},
		{"0 entry 2 10 3 -1 -1 2 0 3 0 60 1 2", "ok"}, {"1 entry 1 11 3 -1 -1 2 0 3 0 60 1 2", "ok"},
		{"0 gloss 0 1 0 0 6 3", "ok"}, {"0 gloss 0 1 0 0 6 3", "old"}, {"0 gloss 0 1 0 0 6 1", "clash"}, {"0 gloss 0 1 1 0 4 3", "clash"}, {"0 gloss 1 1 0 0 6 3", "ok"}, {"0 gloss 0 2 0 0 6 3", "ok"},
		{"0 shift 1 5 1 0 3", "ok"}, {"0 shift 1 5 1 0 3", "old"}, {"0 shift 1 5 2 0 3", "clash"}, {"0 shift 1 5 1 1 3", "clash"}, {"0 shift 1 4 1 0 3", "clash"}, {"0 shift 1 5 1 0 2", "clash"}, {"0 shift 2 5 1 0 3", "ok"},
		{"0 call 1 0 10", "ok"}, {"0 call 1 0 10", "old"}, {"0 call 1 1 10", "clash"}, {"0 call 1 0 11", "clash"}, {"0 call 2 0 10", "ok"}, {"1 call 1 1 10", "ok"},
	}...)
}

// P12.2: messages are held in the order of their Ids, glosses of their authors and stamps, however they come.
func TestOrderOfWhatIsHeld(t *testing.T) {
	held := testExchanges(t, serviceV(), []exchange{
		{"0 call 3 0 9", "ok"}, {"0 call 1 2 -5", "ok"}, {"0 call 2 1 7", "ok"}, {"0 shift 9 1 1 0 3", "ok"}, {"0 shift 4 7 1 0 2", "ok"},
		{"0 gloss 1 1 0 0 6 3", "ok"}, {"0 gloss 0 9 0 0 6 3", "ok"}, {"0 gloss 0 3 0 0 6 3", "ok"}, {"0 entry 8 1 1 -1 0 0 0 1 0 9", "ok"}, {"0 entry 5 2 0 0 0 0 0 1 0 9", "ok"},
		{"1 call 0 0 0", "ok"}, {"1 call 9 0 0", "ok"}, {"0 send 1", "ok"},
	}...)
	want := api.Desk{
		Entries: []api.Entry{{Id: 5, Sign: 2, Regions: 1, Ages: span(0, 9)}, {Id: 8, Sign: 1, Form: api.Form{Right: -1, Left: 1}, Regions: 1, Ages: span(0, 9)}},
		Glosses: []api.Gloss{{Stamp: 3, To: 6, Signs: 3}, {Stamp: 9, To: 6, Signs: 3}, {Author: 1, Stamp: 1, To: 6, Signs: 3}},
		Shifts:  []api.Shift{{Id: 4, Stamp: 7, Kind: api.Assign, Person: 2}, {Id: 9, Stamp: 1, Kind: api.Assign, Person: 3}},
		Calls:   []api.Call{{Id: 1, Booking: 2, Minute: -5}, {Id: 2, Booking: 1, Minute: 7}, {Id: 3, Minute: 9}},
	}
	both := want
	both.Calls = []api.Call{{}, want.Calls[0], want.Calls[1], want.Calls[2], {Id: 9}}
	if !slices.EqualFunc(held, []api.Desk{want, both}, sameDesk) {
		t.Errorf("the desks hold %v", held)
	}
}

// P12.2: a desk that is sent as many messages of a kind as it can hold, or one more.
func TestSendToFullDesk(t *testing.T) {
	for word, k := range kinds {
		half := k.most / 2
		script := append(k.lines(0, 0, half), k.lines(1, half-1, k.most)...)
		held := testExchanges(t, serviceV(), append(script, exchange{"0 send 1", "ok"}, exchange{"0 send 1", "old"}, exchange{"1 send 0", "ok"}, exchange{"1 send 0", "old"})...)
		if messagesIn(held[0]) != k.most || !sameDesk(held[0], held[1]) {
			t.Errorf("%s: the desks hold %v", word, held)
		}
		script = append(k.lines(0, 0, half), k.lines(1, half, k.most+1)...)
		held = testExchanges(t, serviceV(), append(script, exchange{"0 send 1", "full"}, exchange{"1 send 0", "full"})...)
		if messagesIn(held[0]) != half || messagesIn(held[1]) != k.most+1-half {
			t.Errorf("%s: the desks hold %v", word, held)
		}
	}
}

// P12.2: too many messages of any kind come before a clash of any other one, and of the same one, but of entries different Ids are counted; whatever does not fit, nothing is held.
func TestSendFullOrClash(t *testing.T) {
	for word, k := range kinds {
		for clashing, other := range kinds {
			script := append(k.lines(0, 1, k.most), exchange{k.write(1, k.most, 1), "ok"}, exchange{k.write(1, k.most+1, 1), "ok"})
			if clashing == word {
				// so many and one more are different
				script = append(script[:k.most-1], exchange{k.write(1, 1, 2), "ok"}, exchange{k.write(1, k.most, 1), "ok"})
			} else {
				script = append(script, exchange{other.write(0, 5, 1), "ok"}, exchange{other.write(1, 5, 2), "ok"})
			}
			answer := "full"
			if clashing == word && word == "entry" {
				answer = "clash"
			}
			before := testExchanges(t, serviceV(), script...)
			script = append(script, exchange{"0 send 1", answer}, exchange{"1 send 0", answer})
			if held := testExchanges(t, serviceV(), script...); !slices.EqualFunc(held, before, sameDesk) {
				t.Errorf("%s and %s: %v, after that %v", word, clashing, before, held)
			}
		}
	}
}

// P12.2: a clash of one kind keeps all other messages from being held, too.
func TestSendClash(t *testing.T) {
	for word, k := range kinds {
		script := []exchange{{k.write(0, 5, 1), "ok"}, {k.write(1, 5, 2), "ok"}}
		for _, other := range kinds {
			script = append(script, exchange{other.write(0, 6, 1), "ok"}, exchange{other.write(1, 7, 1), "ok"})
		}
		before := testExchanges(t, serviceV(), script...)
		script = append(script, exchange{"0 send 1", "clash"}, exchange{"1 send 0", "clash"})
		if held := testExchanges(t, serviceV(), script...); !slices.EqualFunc(held, before, sameDesk) {
			t.Errorf("%s: %v, after that %v", word, before, held)
		}
	}
}

// P12.2: to whom a desk can send.
func TestSend(t *testing.T) {
	testExchanges(t, withDesks(1), exchange{"0 send 0", "no"}, exchange{"0 send 1", "no"}, exchange{"1 send 0", "?"})
	held := testExchanges(t, withDesks(3), []exchange{
		{"0 send 0", "no"}, {"0 send 3", "no"}, {"0 send -1", "no"}, {"0 send 999999", "no"}, {"0 send -999999", "no"}, {"0 send 1", "old"}, {"3 send 0", "?"},
		{"0 entry 1 10 3 -1 -1 2 0 3 0 60 1 2", "ok"}, {"0 send 1", "ok"}, {"0 send 1", "old"}, {"1 send 0", "old"}, {"2 order", "none"},
		{"1 entry 1 10 -1 3 1 2 0 3 0 60 7 6", "old"}, {"2 entry 1 10 -1 3 1 2 0 3 0 60 7 6", "ok"}, {"1 send 2", "old"}, {"2 send 1", "old"},
		{"2 shift 1 5 1 0 3", "ok"}, {"2 call 1 0 -940", "ok"}, {"2 gloss 0 1 0 0 6 3", "ok"}, {"2 send 0", "ok"}, {"0 totals", "0 0"}, {"1 totals", "0 0"}, {"0 teams", "8 0 0"}, {"0 read 0", "0 6 1"}, {"1 teams", "0 0 0"}, {"1 read 0", "none"},
	}...)
	if !sameDesk(held[0], held[2]) || messagesIn(held[0]) != 4 || messagesIn(held[1]) != 1 {
		t.Errorf("the desks hold %v", held)
	}
}

// P12.6: also with a mirror form instead of a form.
func TestInAnyOrder(t *testing.T) {
	r := chance()
	for range 300 {
		messages := drawMessages(r, 5+r.IntN(35))
		n := min(len(messages), api.MaxScript-8)
		var first []string
		for _, words := range messages[:n] {
			first = append(first, at(0, words))
		}
		second := slices.Clone(first)
		r.Shuffle(n, func(i, j int) { second[i], second[j] = second[j], second[i] })
		answers, held := run(t, serviceV(), append(first, askAll(0, 2)...))
		others, heldThen := run(t, serviceV(), append(second, askAll(0, 2)...))
		if answersSome(slices.Concat(answers, others), "full", "clash", "no", "?") {
			t.Fatalf("some of %q is not taken: %q, in another order %q", first, answers, others)
		}
		if !sameDesk(held[0], heldThen[0]) || !slices.Equal(answers[n:], others[n:]) {
			t.Errorf("%q leads to %v, in another order to %v", first, held, heldThen)
		}
	}
}

// P12.7
func TestWhereverTheyAreWritten(t *testing.T) {
	eachMet(t, serviceV(), 300, func(_ *rand.Rand, held []api.Desk, one api.Desk) {
		for i, d := range held {
			if !sameDesk(d, one) {
				t.Errorf("the desk %d of %d holds %v, one desk %v", i, len(held), d, one)
			}
		}
	})
}

// holdsAll reports whether a desk holds all messages of another one.
func holdsAll(d, less api.Desk) bool {
	contain := func(x api.Entry) bool {
		return slices.ContainsFunc(d.Entries, func(y api.Entry) bool {
			return sameDesk(api.Desk{Entries: []api.Entry{x}}, api.Desk{Entries: []api.Entry{y}})
		})
	}
	for _, x := range less.Entries {
		if !contain(x) {
			return false
		}
	}
	lacksGloss := func(x api.Gloss) bool { return !slices.Contains(d.Glosses, x) }
	lacksShift := func(x api.Shift) bool { return !slices.Contains(d.Shifts, x) }
	lacksCall := func(x api.Call) bool { return !slices.Contains(d.Calls, x) }
	return !slices.ContainsFunc(less.Glosses, lacksGloss) && !slices.ContainsFunc(less.Shifts, lacksShift) && !slices.ContainsFunc(less.Calls, lacksCall)
}

// P12.8, P12.9
func TestNothingIsForgotten(t *testing.T) {
	answered := map[string]int{}
	eachScript(150, func(_ *rand.Rand, s api.Service, script []string) {
		answers, _ := run(t, s, script)
		before := make([]api.Desk, s.Desks)
		for n, line := range script {
			_, held := run(t, s, script[:n+1])
			answered[answers[n]]++
			for i, d := range held {
				mayChange := answers[n] == "ok" && i == changedBy(line)
				if !holdsAll(d, before[i]) || !mayChange && !sameDesk(d, before[i]) || mayChange && messagesIn(d) <= messagesIn(before[i]) {
					t.Errorf("the line %d of %q, answered %q, changes the desk %d from %v to %v", n, script, answers[n], i, before[i], d)
				}
				testHeld(t, s, d)
			}
			before = held
		}
	})
	for _, answer := range []string{"ok", "old", "clash", "no", "?"} {
		if answered[answer] < 50 {
			t.Errorf("%d lines are answered %q", answered[answer], answer)
		}
	}
}

// changedBy is the desk that a line can change.
func changedBy(line string) int {
	if line[2:6] == "send" {
		return int(line[7] - '0')
	}
	return int(line[0] - '0')
}

// testHeld checks P12.9 for what a desk holds.
func testHeld(t *testing.T, s api.Service, d api.Desk) {
	t.Helper()
	errors := []api.Errno{signs.Check(d.Entries), glosses.Check(s.Films, d.Glosses), rosters.Check(dayOf(s, d)), bills.Check(ledgerOf(s, d))}
	if slices.ContainsFunc(errors, func(e api.Errno) bool { return e != api.OK }) {
		t.Errorf("what a desk holds, %v, has the errors %v", d, errors)
	}
	once := slices.IsSortedFunc(d.Calls, func(x, y api.Call) int { return x.Id - y.Id }) && len(slices.Compact(slices.Clone(d.Calls))) == len(d.Calls)
	entries, _ := signs.Merge(d.Entries, nil)
	messages, _ := glosses.Merge(s.Films, d.Glosses, nil)
	day, _ := rosters.Merge(dayOf(s, d), nil)
	if merged := (api.Desk{Entries: entries, Glosses: messages, Shifts: day.Shifts, Calls: d.Calls}); !once || !sameDesk(d, merged) {
		t.Errorf("a desk does not hold %v as Merge returns it, %v", d, merged)
	}
}
