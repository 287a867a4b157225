package turns

import "handshape/api"

// course is a course of any rota of a task in which the same ends of spans count throughout: some end of what wears a hand out, and some end of what it recovers.
type course struct {
	task
	tired, eased func(s api.Span) int
}

func low(s api.Span) int { return s.Low }

func high(s api.Span) int { return s.High }

// worst returns the course with the most mistakes. Weariness is not less with a greater start or more tiring, nor with less easing, so that in no course any hand is wearier before any part.
func (t task) worst() course { return course{task: t, tired: high, eased: low} }

// best returns the course with the fewest mistakes: in none any hand is less weary before any part.
func (t task) best() course { return course{task: t, tired: low, eased: high} }

// state is what a course has led to after some parts: the weariness of each hand, and the mistakes so far.
type state struct {
	weary           [api.MaxHands]int
	parts, mistakes int
	// last is the hand that signed in the part before, if there is one.
	last int
}

// begin returns the state before the part 0.
func (c course) begin() state {
	var s state
	for i, h := range c.Hands {
		s.weary[i] = c.tired(h.Start)
	}
	return s
}

// sign returns the state after one more part, in which a hand signs.
func (c course) sign(s state, hand int) state {
	s.mistakes += c.Parts[s.parts] * (c.Hands[hand].Slip + s.weary[hand])
	if s.parts > 0 && s.last != hand {
		s.mistakes += c.Swap
	}
	for i, h := range c.Hands {
		if i == hand {
			s.weary[i] += c.tired(h.Tire)
		} else {
			s.weary[i] = max(0, s.weary[i]-c.eased(h.Ease))
		}
	}
	s.parts++
	s.last = hand
	return s
}

// after returns the state after the first parts of a rota.
func (c course) after(first []int) state {
	s := c.begin()
	for _, hand := range first {
		s = c.sign(s, hand)
	}
	return s
}

// longest returns for how many parts a hand can sign from the part 0 on with worst mistakes of at most some number. No part takes mistakes back, so that the first part that is too much ends it.
func (t task) longest(hand, most int) int {
	c := t.worst()
	s := c.begin()
	for s.parts < min(t.Limit, len(t.Parts)) {
		next := c.sign(s, hand)
		if next.mistakes > most {
			break
		}
		s = next
	}
	return s.parts
}
