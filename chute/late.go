package chute

import (
	"wishbook/api"
	"wishbook/spans"
)

// coming is a slip that is too late from a second on: the one just ahead of which the quarter of its box ends.
type coming struct {
	arrival
	late int
}

// haste is how quickly pickers and belts are: which end of spans is meant.
type haste struct{ end func(api.Span) int }

func (h haste) isLate(c coming) bool { return h.end(c.seconds) >= c.late }

func (c coming) surelyIsLate() bool { return haste{spans.Low}.isLate(c) }

func (c coming) mayBeLate() bool { return haste{spans.High}.isLate(c) }

// How late is meant.
const (
	surely = iota
	perhaps
)

func lateness() [2]func(coming) bool {
	return [...]func(coming) bool{surely: coming.surelyIsLate, perhaps: coming.mayBeLate}
}

// isLate reports whether a slip goes by itself, surely or perhaps, if its box waits in a quarter.
func (h house) isLate(how int, a arrival, quarter int) bool {
	return lateness()[how](coming{a, (quarter + 1) * h.Quarter})
}
