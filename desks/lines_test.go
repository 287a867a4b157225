package desks_test

import (
	"math/rand/v2"
	"slices"
	"strings"
	"testing"

	"handshape/api"
	"handshape/bills"
	"handshape/desks"
	"handshape/glosses"
	"handshape/rosters"
	"handshape/signs"
)

// An example of each word with numbers.
const (
	entryLine = "0 entry 1 10 3 -1 -1 2 0 3 0 60 1 2"
	glossLine = "0 gloss 0 1 0 0 6 3"
	shiftLine = "0 shift 1 5 1 0 3"
	callLine  = "0 call 1 0 -940"
	sendLine  = "0 send 1"
	readLine  = "0 read 0"
)

// unclearLines are lines that are answered `?` where there are two desks.
func unclearLines() []string {
	l := []string{
		"", " ", "  ", "0", "1", "-1", "order", "0 ", "1  ",
		"0 orders", "0 Order", "0 ORDER", "0 orde", "0 ?", "0 ok", "0\torder", "0 order\n", "0 order\x00", "0 entry\t1", "0 örder", "0 \xff",
		"2 order", "3 order", "-1 order", "999999 order", "00 order", "-0 order", "+0 order", "01 order", "1000000 order", "a order", "0x0 order", " order", "  order",
		" 0 order", "0  order", "0 order ", "0 order  ", "order 0", "0 0 order", "2 send 0", "2 " + strings.TrimPrefix(callLine, "0 "),
		"0 read 0 ", "0 read  0", "0 send 1 ", "0 send  1", "0 send 0 1", "0 read 0 0", "0 send", "0 read",
	}
	for _, word := range questions {
		l = append(l, "0 "+word+" 0", "0 "+word+" ", "5 "+word, "0 "+word+"s")
	}
	for _, line := range []string{entryLine, glossLine, shiftLine, callLine, sendLine, readLine} {
		words := strings.Split(line, " ")
		l = append(l, line+" ", " "+line, strings.Join(words[:2], " "), strings.Join(words[1:], " "), strings.Replace(line, "0 ", "4 ", 1))
		if words[1] == "entry" {
			l = append(l, strings.Join(words[:11], " "), strings.Join(words[:2], " "), line+" 1 1 1 1 1")
		} else {
			l = append(l, strings.Join(words[:len(words)-1], " "), line+" 0", line+" 0 0 0 0 0 0 0 0 0 0 0 0")
		}
		for i := range words {
			if i == 1 {
				continue
			}
			for _, wrong := range []string{"", "a", "-", "+1", "-0", "00", "01", "-01", "1000000", "-1000000", "1.0", "1e3", "0x1", "1_0", "١", "1\n", "\t1", "--1", "1-", "99999999999999999999"} {
				l = append(l, strings.Join(slices.Replace(slices.Clone(words), i, i+1, wrong), " "))
			}
		}
	}
	return l
}

// P12.2, P12.8: lines that are not as they should be do nothing.
func TestUnclearLines(t *testing.T) {
	before := []string{"0 entry 5 10 3 -1 -1 2 0 3 0 60 1 2", "1 gloss 3 1 0 0 6 3", "0 shift 8 5 1 0 3"}
	_, want := run(t, serviceV(), before)
	for _, line := range unclearLines() {
		answers, held := run(t, serviceV(), append(slices.Clone(before), line))
		if answers[3] != "?" || !slices.EqualFunc(held, want, sameDesk) {
			t.Errorf("the line %q is answered %q, the desks hold %v", line, answers[3], held)
		}
	}
}

// P12.2: each number of a message stands in its place, also the least and the greatest ones.
func TestNumbersOfMessages(t *testing.T) {
	s := withDesks(3)
	s.Films.Frames = []int{10, 20, 200}
	form := api.Form{Right: 1, Left: 2, Column: -1, Row: 4, Face: 5, Moves: []int{1, 0, 7}}
	long := api.Form{Right: -1, Left: 31, Column: -3, Row: 5, Face: 7, Moves: []int{0, 1, 2, 3, 4, 5}}
	for line, want := range map[string]api.Desk{
		"1 entry 3 4 1 2 -1 4 5 6 7 8 1 0 7":                {Entries: []api.Entry{{Id: 3, Sign: 4, Form: form, Regions: 6, Ages: span(7, 8)}}},
		"1 entry 99 999 -1 31 -3 5 7 255 0 120 0 1 2 3 4 5": {Entries: []api.Entry{{Id: 99, Sign: 999, Form: long, Regions: 255, Ages: span(0, 120)}}},
		"1 entry 0 0 0 0 0 0 0 1 0 0":                       {Entries: []api.Entry{{Regions: 1}}},
		"1 gloss 2 3 1 4 15 6":                              {Glosses: []api.Gloss{{Author: 2, Stamp: 3, Film: 1, From: 4, To: 15, Signs: 6}}},
		"1 gloss 7 9999 2 199 200 0":                        {Glosses: []api.Gloss{{Author: 7, Stamp: 9999, Film: 2, From: 199, To: 200}}},
		"1 shift 5 4 2 1 3":                                 {Shifts: []api.Shift{{Id: 5, Stamp: 4, Kind: api.Remove, Booking: 1, Person: 3}}},
		"1 shift 99 9999 1 2 0":                             {Shifts: []api.Shift{{Id: 99, Stamp: 9999, Kind: api.Assign, Booking: 2}}},
		"1 call 3 2 44":                                     {Calls: []api.Call{{Id: 3, Booking: 2, Minute: 44}}},
		"1 call 99 1 -100000":                               {Calls: []api.Call{{Id: 99, Booking: 1, Minute: -100000}}},
		"1 call 0 0 1440":                                   {Calls: []api.Call{{Minute: 1440}}},
	} {
		held := testExchanges(t, s, exchange{line, "ok"}, exchange{line, "old"})
		if !slices.EqualFunc(held, []api.Desk{{}, want, {}}, sameDesk) {
			t.Errorf("after %q the desks hold %v", line, held)
		}
	}
}

// P12.2: messages that are not valid are clear, but are not taken.
func TestMessagesThatAreNotValid(t *testing.T) {
	for _, line := range []string{
		"0 entry 100 10 3 -1 -1 2 0 3 0 60", "0 entry -1 10 3 -1 -1 2 0 3 0 60", "0 entry 1 1000 3 -1 -1 2 0 3 0 60", "0 entry 1 10 -1 -1 -1 2 0 3 0 60",
		"0 entry 1 10 32 -1 -1 2 0 3 0 60", "0 entry 1 10 3 -1 4 2 0 3 0 60", "0 entry 1 10 3 -1 -1 6 0 3 0 60", "0 entry 1 10 3 -1 -1 2 8 3 0 60",
		"0 entry 1 10 3 -1 -1 2 0 0 0 60", "0 entry 1 10 3 -1 -1 2 0 3 61 60", "0 entry 1 10 3 -1 -1 2 0 3 0 60 8", "0 entry 1 10 3 -1 -1 2 0 3 0 60 1 2 3 4 5 -1",
		"0 gloss 8 1 0 0 6 3", "0 gloss 0 10000 0 0 6 3", "0 gloss 0 1 2 0 6 3", "0 gloss 0 1 -1 0 6 3", "0 gloss 0 1 0 6 6 3", "0 gloss 0 1 0 0 11 3", "0 gloss 0 1 0 0 6 32",
		"0 shift 100 5 1 0 3", "0 shift 1 10000 1 0 3", "0 shift 1 5 0 0 3", "0 shift 1 5 3 0 3", "0 shift 1 5 1 3 3", "0 shift 1 5 1 0 4", "0 shift 1 5 1 0 -1",
		"0 call 100 0 0", "0 call -1 0 0", "0 call 1 3 0", "0 call 1 -1 0", "0 call 1 0 1441", "0 call 1 0 -100001", "0 call 1 0 999999", "0 call 1 0 -999999",
	} {
		held := testExchanges(t, serviceV(), exchange{line, "no"}, exchange{strings.Replace(line, "0", "1", 1), "no"})
		if messagesIn(held[0])+messagesIn(held[1]) > 0 {
			t.Errorf("after %q the desks hold %v", line, held)
		}
	}
	s := withoutBookings()
	testExchanges(t, s, exchange{shiftLine, "no"}, exchange{callLine, "no"}, exchange{"0 teams", "none"}, exchange{"0 totals", "none"}, exchange{"0 served", "none"}, exchange{"0 refused", "none"})
}

// P12.2: what questions are answered.
func TestQuestions(t *testing.T) {
	testExchanges(t, serviceV(), []exchange{
		{"0 order", "none"}, {"0 twins", "none"}, {"0 read 0", "none"}, {"0 read 1", "none"}, {"0 read 2", "no"}, {"0 read -1", "no"}, {"0 read 999999", "no"},
		{"0 teams", "0 0 0"}, {"0 refused", "none"}, {"0 served", "none"}, {"0 totals", "0 0"},
		{"0 entry 9 30 1 -1 0 5 0 1 0 9", "ok"}, {"0 entry 80 20 1 -1 0 0 0 1 0 9", "ok"}, {"0 entry 7 40 -1 1 0 0 0 1 9 9", "ok"}, {"0 entry 6 5 1 -1 0 0 0 3 0 9", "ok"},
		{"0 order", "6 80 7 9"}, {"0 twins", "5 20 5 40 20 40"},
		{"0 gloss 1 1 0 2 8 4", "ok"}, {"0 gloss 2 5 0 4 10 6", "ok"}, {"0 gloss 1 7 1 0 4 16", "ok"}, {"0 gloss 0 2 0 5 7 1", "ok"},
		{"0 read 0", "2 5 4 5 7 5 7 8 4 8 10 2"}, {"0 read 1", "0 4 16"},
		{"0 shift 1 5 1 0 3", "ok"}, {"0 shift 2 6 1 1 3", "ok"}, {"0 shift 3 4 1 2 2", "ok"}, {"0 shift 4 7 1 2 0", "ok"}, {"0 shift 5 8 1 2 1", "ok"}, {"0 shift 6 9 1 2 3", "ok"},
		{"0 teams", "8 8 3"}, {"0 refused", "3 6"}, {"0 served", "0 1 2"}, {"0 totals", "940 200"},
		{"0 call 2 1 120", "ok"}, {"0 totals", "940 200"}, {"0 call 1 1 80", "ok"}, {"0 totals", "940 100"}, {"1 totals", "0 0"},
	}...)
}

// wantAnswers are the answers to all questions at a desk, by what it holds alone.
func wantAnswers(s api.Service, d api.Desk) []string {
	pairs, e := signs.Twins(d.Entries)
	var twins []int
	for _, pair := range pairs {
		twins = append(twins, pair[0], pair[1])
	}
	l := []string{
		answerOf(signs.Order(d.Entries)), answerOf(twins, e), answerOf(rosters.Teams(dayOf(s, d))), answerOf(rosters.Refused(dayOf(s, d))),
		answerOf(rosters.Served(dayOf(s, d))), answerOf(bills.Totals(ledgerOf(s, d))),
	}
	for film := range s.Films.Frames {
		readings, e := glosses.Readings(s.Films, d.Glosses, film)
		var numbers []int
		for _, x := range readings {
			numbers = append(numbers, x.From, x.To, x.Signs)
		}
		l = append(l, answerOf(numbers, e))
	}
	return l
}

// askAll are all questions at a desk, in the order of wantAnswers.
func askAll(desk, films int) []string {
	var l []string
	for _, word := range questions {
		l = append(l, written(desk, word))
	}
	for film := range films {
		l = append(l, written(desk, "read", film))
	}
	return l
}

// P12.10
func TestTrueAnswers(t *testing.T) {
	some := map[string]bool{}
	eachScript(300, func(_ *rand.Rand, s api.Service, script []string) {
		script = script[:min(len(script), api.MaxScript-8)]
		for desk := range s.Desks {
			answers, held := run(t, s, append(slices.Clone(script), askAll(desk, 2)...))
			want := wantAnswers(s, held[desk])
			if got := answers[len(script):]; !slices.Equal(got, want) {
				t.Errorf("after %q the desk %d answers %q, want %q", script, desk, got, want)
			}
			for i, answer := range want {
				if answer != "none" && answer != "0 0 0" && answer != "0 0" {
					some[askAll(0, 2)[i]] = true
				}
			}
		}
	})
	if len(some) != 8 {
		t.Errorf("the drawn desks only have answers to %v", some)
	}
}

// P12.5
func TestLaterLines(t *testing.T) {
	eachScript(100, func(r *rand.Rand, s api.Service, script []string) {
		answers, _ := run(t, s, script)
		for n := range len(script) {
			first, _ := run(t, s, script[:n])
			if !slices.Equal(first, answers[:n]) {
				t.Errorf("the first %d lines of %q are answered %q, want %q", n, script, first, answers[:n])
			}
		}
		if other, _, e := desks.Run(s, append(script[:len(script)/2:len(script)/2], drawLine(r, s.Desks, 9))); e != api.OK || !slices.Equal(other[:len(script)/2], answers[:len(script)/2]) {
			t.Errorf("with another line the first lines of %q are answered %q", script, other)
		}
	})
}
