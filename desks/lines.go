package desks

import (
	"slices"
	"strconv"
	"strings"

	"handshape/api"
	"handshape/bills"
	"handshape/rosters"
	"handshape/signs"
)

// The answers, but for lists.
const (
	unclear = "?"
	ok      = "ok"
	old     = "old"
	full    = "full"
	clash   = "clash"
	no      = "no"
)

// greatest is the greatest number of a line: one of six digits.
const greatest = 999999

// meaning is what a second word means: how many numbers follow it, at least and at most, and what is done with them at a desk.
type meaning struct {
	least, most int
	do          func(d *desk, numbers []int) string
}

// meanings returns what all second words mean.
func meanings() map[string]meaning {
	return map[string]meaning{
		"entry":   writes(10, 10+api.MaxMoves, entry),
		"gloss":   writes(6, 6, gloss),
		"shift":   writes(5, 5, shift),
		"call":    writes(3, 3, call),
		"send":    {1, 1, func(d *desk, n []int) string { return d.send(n[0]) }},
		"order":   asks(func(d *desk) ([]int, api.Errno) { return signs.Order(d.Entries) }),
		"twins":   asks(func(d *desk) ([]int, api.Errno) { return d.twins() }),
		"read":    {1, 1, func(d *desk, n []int) string { return list(d.read(n[0])) }},
		"teams":   asks(func(d *desk) ([]int, api.Errno) { return rosters.Teams(d.day()) }),
		"refused": asks(func(d *desk) ([]int, api.Errno) { return rosters.Refused(d.day()) }),
		"served":  asks(func(d *desk) ([]int, api.Errno) { return rosters.Served(d.day()) }),
		"totals":  asks(func(d *desk) ([]int, api.Errno) { return bills.Totals(d.ledger()) }),
	}
}

// writes is the meaning of a word after which the numbers of a message follow. The message comes as all that a desk would hold that holds nothing else.
func writes(least, most int, message func(n []int) api.Desk) meaning {
	return meaning{least, most, func(d *desk, n []int) string { return d.take(message(n)) }}
}

// asks is the meaning of a word that is a question without numbers.
func asks(question func(d *desk) ([]int, api.Errno)) meaning {
	return meaning{0, 0, func(d *desk, _ []int) string { return list(question(d)) }}
}

func entry(n []int) api.Desk {
	form := api.Form{Right: n[2], Left: n[3], Column: n[4], Row: n[5], Face: n[6], Moves: n[10:]}
	x := api.Entry{Id: n[0], Sign: n[1], Form: form, Regions: n[7], Ages: api.Span{Low: n[8], High: n[9]}}
	return api.Desk{Entries: []api.Entry{x}}
}

func gloss(n []int) api.Desk {
	x := api.Gloss{Author: n[0], Stamp: n[1], Film: n[2], From: n[3], To: n[4], Signs: n[5]}
	return api.Desk{Glosses: []api.Gloss{x}}
}

func shift(n []int) api.Desk {
	x := api.Shift{Id: n[0], Stamp: n[1], Kind: n[2], Booking: n[3], Person: n[4]}
	return api.Desk{Shifts: []api.Shift{x}}
}

func call(n []int) api.Desk {
	x := api.Call{Id: n[0], Booking: n[1], Minute: n[2]}
	return api.Desk{Calls: []api.Call{x}}
}

// answer runs a line, and returns the answer to it.
func (o *office) answer(line string) string {
	words := strings.Split(line, " ")
	if len(words) < 2 {
		return unclear
	}
	m, known := o.meanings[words[1]]
	if !known || !within(len(words)-2, m.least, m.most) {
		return unclear
	}
	n, valid := numbers(slices.Delete(words, 1, 2))
	if !valid || !o.hasDesk(n[0]) {
		return unclear
	}
	return m.do(o.desks[n[0]], n[1:])
}

// numbers returns the numbers that some words are, and whether all of them are numbers.
func numbers(words []string) (l []int, valid bool) {
	for _, word := range words {
		n, e := strconv.Atoi(word)
		// whatever else Atoi reads (a plus sign, leading zeros, -0) is not how the number is written
		if e != nil || !within(n, -greatest, greatest) || strconv.Itoa(n) != word {
			return nil, false
		}
		l = append(l, n)
	}
	return l, true
}

// list returns the answer that is a list of numbers, or `no` if there is an error in their place.
func list(l []int, e api.Errno) string {
	if e != api.OK {
		return no
	}
	if len(l) == 0 {
		return "none"
	}
	var words []string
	for _, n := range l {
		words = append(words, strconv.Itoa(n))
	}
	return strings.Join(words, " ")
}
