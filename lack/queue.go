package lack

import (
	"cmp"
	"slices"

	"wishbook/api"
	"wishbook/lists"
	"wishbook/spans"
)

// queue is lines that wait for a good, and which one of two gets pieces first.
type queue struct {
	lines []waiting
	first func(one, other waiting) int
}

// need returns how many pieces must come until a line has all of its own: none, if it does not wait.
// What comes goes to the lines in the same order, whenever it comes, as all of them wait from the first day on.
func (q queue) need(line int) int {
	sorted := slices.SortedFunc(slices.Values(q.lines), q.first)
	many := 1 + slices.IndexFunc(sorted, func(w waiting) bool { return w.line == line })
	return lists.Sum(waiting.pieces, sorted[:many:many]...)
}

// soonest puts the line that is due first ahead, and of several ones the first one.
func soonest(one, other waiting) int {
	if one.date == other.date {
		return cmp.Compare(one.line, other.line)
	}
	return cmp.Compare(one.day, other.day)
}

// coming is a line that is asked about, and what truly came.
type coming struct {
	book
	line int
	came []api.LackCame
}

func (c coming) isThere() bool { return spans.Has(spans.Below(len(c.Lines)), c.line) }

// canBeTrue reports whether all this can have come.
func (c coming) canBeTrue() bool {
	if len(c.came) != len(c.Deliveries) {
		return false
	}
	for delivery, d := range c.Deliveries {
		if came := c.came[delivery]; !spans.Has(d.Days, came.Day) || !spans.Has(d.By, came.Many) {
			return false
		}
	}
	return true
}

// day returns on which day the line is there; false, if nothing of it is listed.
func (c coming) day() (int, bool) {
	good := c.Lines[c.line].Good
	need := queue{c.serve().listed(good), soonest}.need(c.line)
	for on, many := range c.arrivals(c.came).totals(good) {
		if need > 0 && many >= need {
			return on.day, true
		}
	}
	return 0, false
}
