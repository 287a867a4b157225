package turns

import (
	"slices"

	"handshape/api"
)

// task is a task that has been checked.
type task struct {
	api.Task
}

// read returns ErrTask, or the task that has been checked.
func read(t api.Task) (task, api.Errno) {
	if !validTask(t) {
		return task{}, api.ErrTask
	}
	return task{t}, api.OK
}

// readRota returns the first error of a task and a rota, or the task.
func readRota(t api.Task, rota []int) (task, api.Errno) {
	k, e := read(t)
	if e != api.OK {
		return task{}, e
	}
	stranger := func(hand int) bool { return !within(hand, 0, len(k.Hands)-1) }
	if len(rota) != len(k.Parts) || slices.ContainsFunc(rota, stranger) {
		return task{}, api.ErrRota
	}
	return k, api.OK
}

// readMost returns the first error of a task and a number of mistakes, or the task.
func readMost(t api.Task, most int) (task, api.Errno) {
	k, e := read(t)
	if e != api.OK {
		return task{}, e
	}
	if most < 0 {
		return task{}, api.ErrArg
	}
	return k, api.OK
}

func within(n, low, high int) bool { return low <= n && n <= high }

func validTask(t api.Task) bool {
	outside := func(weight int) bool { return !within(weight, 0, api.MaxWeight) }
	wrong := func(h api.Hand) bool { return !validHand(h) }
	hands := within(len(t.Hands), 1, api.MaxHands) && !slices.ContainsFunc(t.Hands, wrong)
	parts := within(len(t.Parts), 1, api.MaxParts) && !slices.ContainsFunc(t.Parts, outside)
	turns := within(t.Limit, 1, api.MaxParts) && within(t.Rest, 1, api.MaxParts)
	return hands && parts && turns && within(t.Swap, 0, api.MaxSwap)
}

func validHand(h api.Hand) bool {
	spans := validSpan(h.Start, api.MaxStart) && validSpan(h.Tire, api.MaxTire) && validSpan(h.Ease, api.MaxEase)
	return spans && within(h.Slip, 0, api.MaxSlip)
}

// validSpan reports whether a span is one from 0 to at most some number.
func validSpan(s api.Span, most int) bool {
	return 0 <= s.Low && s.Low <= s.High && s.High <= most
}

// only returns the task with some of its hands alone.
func (t task) only(hands []int) task {
	some := t.Task
	some.Hands = nil
	for _, hand := range hands {
		some.Hands = append(some.Hands, t.Hands[hand])
	}
	return task{some}
}
