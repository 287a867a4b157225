package desks

import (
	"cmp"
	"slices"

	"handshape/api"
	"handshape/bills"
	"handshape/glosses"
	"handshape/rosters"
	"handshape/signs"
)

// office is a service that has been checked, with its desks, and what lines can ask of them.
type office struct {
	api.Service
	desks    []*desk
	meanings map[string]meaning
}

// desk is a desk of an office, with what it holds.
type desk struct {
	api.Desk
	office *office
}

// open returns an office whose desks hold nothing so far.
func open(s api.Service) *office {
	o := &office{Service: s, meanings: meanings()}
	for range s.Desks {
		o.desks = append(o.desks, &desk{office: o})
	}
	return o
}

func within(n, low, high int) bool { return low <= n && n <= high }

func (o *office) hasDesk(number int) bool { return within(number, 0, len(o.desks)-1) }

// day returns the day of the desk.
func (d *desk) day() api.Day {
	day := d.office.Ledger.Day
	day.Shifts = d.Shifts
	return day
}

// ledger returns the ledger of the desk.
func (d *desk) ledger() api.Ledger {
	l := d.office.Ledger
	l.Day, l.Calls = d.day(), d.Calls
	return l
}

// merge returns what the desk would hold with more messages, in new memory, and the error of each kind of them.
func (d *desk) merge(more api.Desk) (api.Desk, []api.Errno) {
	entries, ofEntries := signs.Merge(d.Entries, more.Entries)
	messages, ofGlosses := glosses.Merge(d.office.Films, d.Glosses, more.Glosses)
	day, ofShifts := rosters.Merge(d.day(), more.Shifts)
	calls, ofCalls := d.mergeCalls(more.Calls)
	all := api.Desk{Entries: entries, Glosses: messages, Shifts: day.Shifts, Calls: calls}
	return all, []api.Errno{ofEntries, ofGlosses, ofShifts, ofCalls}
}

// mergeCalls returns the calls of the desk and more ones, each once, in ascending order of the Id, or their first error.
func (d *desk) mergeCalls(more []api.Call) ([]api.Call, api.Errno) {
	l := d.ledger()
	l.Calls = more
	if e := bills.Check(l); e != api.OK {
		return nil, e
	}
	all := slices.Concat(d.Calls, more)
	// each Id is at most once in each of the two, so that equal calls are neighbours
	slices.SortFunc(all, func(x, y api.Call) int { return cmp.Compare(x.Id, y.Id) })
	all = slices.Compact(all)
	if len(all) > api.MaxCalls {
		return nil, api.ErrMany
	}
	for i := 1; i < len(all); i++ {
		if all[i-1].Id == all[i].Id {
			return nil, api.ErrCalls
		}
	}
	return all, api.OK
}

// take has the desk hold more messages, all of them or none, and returns the answer.
func (d *desk) take(more api.Desk) string {
	all, errors := d.merge(more)
	// too many messages of one kind come before a clash of any other kind
	switch {
	case slices.Contains(errors, api.ErrMany):
		return full
	case slices.ContainsFunc(errors, isClash):
		return clash
	case slices.ContainsFunc(errors, func(e api.Errno) bool { return e != api.OK }):
		return no
	}
	before := d.messages()
	d.Desk = all
	if d.messages() == before {
		return old
	}
	return ok
}

func isClash(e api.Errno) bool {
	switch e {
	case api.ErrAlike, api.ErrClash, api.ErrShifts, api.ErrCalls:
		return true
	}
	return false
}

// messages returns how many messages the desk holds.
func (d *desk) messages() int {
	return len(d.Entries) + len(d.Glosses) + len(d.Shifts) + len(d.Calls)
}

// send has another desk hold all that the desk holds, and returns the answer.
func (d *desk) send(number int) string {
	if !d.office.hasDesk(number) || d.office.desks[number] == d {
		return no
	}
	return d.office.desks[number].take(d.Desk)
}

// twins returns both signs of all pairs of twins, pair after pair.
func (d *desk) twins() ([]int, api.Errno) {
	pairs, e := signs.Twins(d.Entries)
	var l []int
	for _, pair := range pairs {
		l = append(l, pair[:]...)
	}
	return l, e
}

// read returns the numbers of all readings of a film, one after the other.
func (d *desk) read(film int) ([]int, api.Errno) {
	readings, e := glosses.Readings(d.office.Films, d.Glosses, film)
	var l []int
	for _, x := range readings {
		l = append(l, x.From, x.To, x.Signs)
	}
	return l, e
}
