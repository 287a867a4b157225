package desks_test

import (
	"math/rand/v2"
	"slices"
	"strconv"
	"strings"
	"testing"

	"handshape/api"
	"handshape/desks"
)

func span(low, high int) api.Span { return api.Span{Low: low, High: high} }

// serviceV is the service V of the chapter's examples.
func serviceV() api.Service {
	day := api.Day{
		Crew: api.Crew{
			Languages: 3,
			People: []api.Person{
				{Levels: []int{5, 4, 0}, Fields: 3, Clears: 15, Fee: 50},
				{Levels: []int{0, 5, 3}, Fields: 3, Clears: 15, Deaf: true, Fee: 40},
				{Levels: []int{4, 0, 4}, Fields: 1, Clears: 3, Ties: []int{7}, Fee: 30},
				{Levels: []int{3, 3, 3}, Fields: 255, Clears: 1, Fee: 10},
			},
			Laws: []api.Law{{Level: 2, Size: 1}, {Level: 4, Size: 2}, {Level: 3, Size: 2, Deaf: true}, {Level: 5, Size: 1}},
		},
		Travel: [][]api.Span{{span(0, 0), span(10, 20)}, {span(10, 25), span(0, 0)}},
		Bookings: []api.Booking{
			{Job: api.Job{To: 2, Client: 3, Size: 1}, Place: 0, Start: 60, End: 120},
			{Job: api.Job{To: 2, Client: 3, Field: 1, Size: 1}, Place: 1, Start: 150, End: 200},
			{Job: api.Job{To: 2, Client: 7, Field: 1, Kind: 2, Size: 1}, Place: 0, Start: 230, End: 300},
		},
		Rest: 10, Limit: 140,
	}
	tariff := api.Tariff{
		Unit: 30, Rate: 100, Least: 2, Dusk: 1200, Dawn: 90, Night: 50, Minute: 2,
		Subsidy: []int{0, 10, 25, 50}, Cap: 150, Notices: []api.Notice{{Before: 1000, Percent: 0}, {Before: 60, Percent: 50}},
	}
	return api.Service{
		Films:  api.Films{Frames: []int{10, 4}, Signs: 5},
		Ledger: api.Ledger{Day: day, Payers: []int{0, 1, 0}, Trips: []int{30, 0, 45}, Tariff: tariff},
		Desks:  2,
	}
}

// serviceW is the service V with people who can be on all bookings, of which each is for two of them; two bookings have the same payer, and two the same kind of places.
func serviceW() api.Service {
	s := serviceV()
	s.Ledger.Payers, s.Ledger.Day.Rest, s.Ledger.Day.Limit = []int{0, 0, 1}, 0, 1440
	for i := range s.Ledger.Day.Crew.People {
		s.Ledger.Day.Crew.People[i] = api.Person{Levels: []int{5, 5, 5}, Fields: 255, Clears: 15}
	}
	for i := range s.Ledger.Day.Crew.Laws {
		s.Ledger.Day.Crew.Laws[i] = api.Law{Level: 1, Size: 1}
	}
	for i := range s.Ledger.Day.Bookings {
		s.Ledger.Day.Bookings[i].Job = api.Job{To: 1, Kind: i % 2, Size: 2}
	}
	return s
}

// withDesks is the service V with so many desks.
func withDesks(n int) api.Service {
	s := serviceV()
	s.Desks = n
	return s
}

// withoutBookings is the service V without bookings.
func withoutBookings() api.Service {
	s := serviceV()
	s.Ledger.Day.Bookings, s.Ledger.Payers, s.Ledger.Trips = nil, nil, nil
	return s
}

// dayOf is the day of a desk.
func dayOf(s api.Service, d api.Desk) api.Day {
	day := s.Ledger.Day
	day.Shifts = d.Shifts
	return day
}

// ledgerOf is the ledger of a desk.
func ledgerOf(s api.Service, d api.Desk) api.Ledger {
	l := s.Ledger
	l.Day, l.Calls = dayOf(s, d), d.Calls
	return l
}

// written is the line that a desk is told some words and numbers by.
func written(desk int, word string, numbers ...int) string {
	return strings.TrimSuffix(strconv.Itoa(desk)+" "+word+" "+listOf(numbers), " ")
}

// listOf are numbers with a blank between two of them.
func listOf(l []int) string {
	var words []string
	for _, n := range l {
		words = append(words, strconv.Itoa(n))
	}
	return strings.Join(words, " ")
}

// answerOf is the answer to a question whose result is a list.
func answerOf(l []int, e api.Errno) string {
	switch {
	case e != api.OK:
		return "no"
	case len(l) == 0:
		return "none"
	}
	return listOf(l)
}

// sameDesk reports whether two desks hold the same, in the same order.
func sameDesk(a, b api.Desk) bool {
	sameEntry := func(x, y api.Entry) bool {
		same := slices.Equal(x.Form.Moves, y.Form.Moves)
		f, g := x.Form, y.Form
		hands := f.Right == g.Right && f.Left == g.Left && f.Column == g.Column && f.Row == g.Row && f.Face == g.Face
		return same && hands && x.Id == y.Id && x.Sign == y.Sign && x.Regions == y.Regions && x.Ages == y.Ages
	}
	entries := slices.EqualFunc(a.Entries, b.Entries, sameEntry)
	return entries && slices.Equal(a.Glosses, b.Glosses) && slices.Equal(a.Shifts, b.Shifts) && slices.Equal(a.Calls, b.Calls)
}

// messagesIn is how many messages a desk holds.
func messagesIn(d api.Desk) int {
	return len(d.Entries) + len(d.Glosses) + len(d.Shifts) + len(d.Calls)
}

// run runs a script without an error.
func run(t *testing.T, s api.Service, script []string) ([]string, []api.Desk) {
	t.Helper()
	answers, held, e := desks.Run(s, script)
	if e != api.OK || len(answers) != len(script) || len(held) != s.Desks {
		t.Fatalf("Run of %q: %q, %v, %d", script, answers, held, e)
	}
	return answers, held
}

// exchange is a line and its answer.
type exchange struct {
	line, answer string
}

// testExchanges runs lines one after the other, and checks their answers.
func testExchanges(t *testing.T, s api.Service, l ...exchange) []api.Desk {
	t.Helper()
	var script []string
	for _, x := range l {
		script = append(script, x.line)
	}
	answers, held := run(t, s, script)
	for i, x := range l {
		if answers[i] != x.answer {
			t.Errorf("the line %d, %q, is answered %q, not %q", i, x.line, answers[i], x.answer)
		}
	}
	return held
}

// chance draws the same numbers in each run of the tests.
func chance() *rand.Rand { return rand.New(rand.NewPCG(12, 3)) }

// forms are the hands, the column, the row and the face of a few forms, in pairs of mirror forms, each with its moves.
var forms = [][2][]int{{{3, -1, -1, 2, 0}, {1, 2}}, {{-1, 3, 1, 2, 0}, {7, 6}}, {{1, 2, 0, 2, 1}, {0}}, {{2, 1, 0, 2, 1}, {0}}, {{5, 5, 2, 0, 7}, {}}, {{5, 5, -2, 0, 7}, {}}}

// drawEntry draws the numbers of an entry of few forms, so that there are twins, and entries that are alike.
func drawEntry(r *rand.Rand, id int) []int {
	form := forms[r.IntN(len(forms))]
	regions, age := 1+r.IntN(7), 10*r.IntN(3)
	l := append([]int{id, r.IntN(3)}, form[0]...)
	return append(append(l, regions, age, age+15), form[1]...)
}

// drawGloss draws the numbers of a gloss on the films of the service V.
func drawGloss(r *rand.Rand, stamp int) []int {
	film := r.IntN(2)
	frames := []int{10, 4}[film]
	from := r.IntN(frames)
	return []int{r.IntN(4), stamp, film, from, from + 1 + r.IntN(frames-from), r.IntN(32)}
}

// drawShift draws the numbers of a shift on the day of the service V.
func drawShift(r *rand.Rand, id int) []int {
	kind := api.Assign
	if r.IntN(4) == 0 {
		kind = api.Remove
	}
	return []int{id, r.IntN(20), kind, r.IntN(3), r.IntN(4)}
}

func drawCall(r *rand.Rand, id int) []int { return []int{id, r.IntN(3), r.IntN(1500) - 1300} }

// drawMessage draws a word and the numbers of a message whose Id or Stamp is below some number.
func drawMessage(r *rand.Rand, ids int) (word string, numbers []int) {
	id := r.IntN(ids)
	switch r.IntN(5) {
	case 0:
		return "entry", drawEntry(r, id)
	case 1:
		return "gloss", drawGloss(r, id)
	case 2:
		return "call", drawCall(r, id)
	}
	return "shift", drawShift(r, id)
}

// questions are all words that are asked without numbers.
var questions = []string{"order", "twins", "teams", "refused", "served", "totals"}

// drawLine draws a line for one of some desks: mostly a message or a sending, sometimes a question, or something that is not valid.
func drawLine(r *rand.Rand, desks, ids int) string {
	desk := r.IntN(desks)
	switch r.IntN(12) {
	case 0, 1, 2:
		return written(desk, "send", r.IntN(desks))
	case 3:
		return written(desk, questions[r.IntN(len(questions))])
	case 4:
		return written(desk, "read", r.IntN(3))
	case 5:
		word, numbers := drawMessage(r, ids)
		numbers[r.IntN(len(numbers))] = []int{-1, 5, 300, 9999, 20000}[r.IntN(5)]
		return written(desk, word, numbers...)
	case 6:
		line := []byte(written(desk, "shift", drawShift(r, 3)...))
		line[r.IntN(len(line))] = "0 -a"[r.IntN(4)]
		return string(line)
	}
	word, numbers := drawMessage(r, ids)
	return written(desk, word, numbers...)
}

// drawScript draws a script of at most 60 lines. With few ids messages often come again, or clash.
func drawScript(r *rand.Rand, desks int) []string {
	ids := []int{2, 8, 90}[r.IntN(3)]
	var script []string
	for range r.IntN(api.MaxScript + 1) {
		if len(script) > 0 && r.IntN(8) == 0 {
			script = append(script, script[r.IntN(len(script))])
			continue
		}
		script = append(script, drawLine(r, desks, ids))
	}
	return script
}

// eachScript calls a function for drawn services and scripts.
func eachScript(times int, do func(r *rand.Rand, s api.Service, script []string)) {
	r := chance()
	for range times {
		s := withDesks(1 + r.IntN(api.MaxDesks))
		do(r, s, drawScript(r, s.Desks))
	}
}

// drawMessages draws the words of so many messages that do not clash, some of them more than once, without a desk.
func drawMessages(r *rand.Rand, n int) []string {
	var l []string
	calls := 0
	for _, id := range r.Perm(90)[:n] {
		word, numbers := drawMessage(r, 1)
		numbers[0] = id
		if word == "gloss" {
			numbers[0], numbers[1] = r.IntN(4), id
		}
		if word == "call" {
			calls++
		}
		if word != "call" || calls <= api.MaxCalls {
			l = append(l, word+" "+listOf(numbers))
		}
		if len(l) > 0 && r.IntN(4) == 0 {
			l = append(l, again(r, l[r.IntN(len(l))]))
		}
	}
	return l
}

// again is the words of the same message, of an entry sometimes with the mirror form.
func again(r *rand.Rand, words string) string {
	numbers, entry := strings.CutPrefix(words, "entry ")
	if !entry || r.IntN(2) == 0 {
		return words
	}
	var l []int
	for word := range strings.SplitSeq(numbers, " ") {
		n, _ := strconv.Atoi(word)
		l = append(l, n)
	}
	l[2], l[3], l[4] = l[3], l[2], -l[4]
	for i := 10; i < len(l); i++ {
		l[i] = (8 - l[i]) % 8
	}
	return "entry " + listOf(l)
}

// at is the line that writes words at a desk.
func at(desk int, words string) string { return strconv.Itoa(desk) + " " + words }

// answersSome reports whether some of the answers is one of a few.
func answersSome(answers []string, few ...string) bool {
	return slices.ContainsFunc(answers, func(a string) bool { return slices.Contains(few, a) })
}

// gossip is lines in which each desk sends to each other one, in any order, once and again.
func gossip(r *rand.Rand, desks int) []string {
	var round, l []string
	for from := range desks {
		for to := range desks {
			if from != to {
				round = append(round, written(from, "send", to))
			}
		}
	}
	for range 3 {
		r.Shuffle(len(round), func(i, j int) { round[i], round[j] = round[j], round[i] })
		l = append(l, round...)
	}
	return l
}

// drawMet draws a script of messages at several desks which then send to each other all that they hold, and the script in which one desk writes down all messages.
func drawMet(r *rand.Rand, desks int) (several, one []string) {
	last := gossip(r, desks)
	for _, words := range drawMessages(r, 5+r.IntN(35)) {
		if len(several)+2+len(last) > api.MaxScript {
			break
		}
		if r.IntN(20) == 0 {
			several = append(several, written(r.IntN(desks), "send", r.IntN(desks)))
		}
		several, one = append(several, at(r.IntN(desks), words)), append(one, at(0, words))
	}
	return append(several, last...), one
}

// eachMet calls a function for desks of a service that have sent to each other what they hold, without anything that is answered full or clash, and for a single desk at which the same was written.
func eachMet(t *testing.T, s api.Service, times int, do func(r *rand.Rand, held []api.Desk, one api.Desk)) {
	t.Helper()
	r := chance()
	for range times {
		s.Desks = 2 + r.IntN(api.MaxDesks-1)
		several, single := drawMet(r, s.Desks)
		answers, held := run(t, s, several)
		others, alone := run(t, s, single)
		if answersSome(slices.Concat(answers, others), "full", "clash") {
			t.Fatalf("some of %q is not taken: %q, at one desk %q", several, answers, others)
		}
		do(r, held, alone[0])
	}
}
