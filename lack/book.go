package lack

import (
	"iter"

	"wishbook/api"
	"wishbook/spans"
)

// book is a book in the calculation.
type book struct{ api.LackBook }

// check returns the errors that functions share. Some ask about a thing, which must be there.
func (b book) check(isThere ...func() bool) api.Errno {
	if !b.isValid() {
		return api.ErrLack
	}
	for _, is := range isThere {
		if !is() {
			return api.ErrLackAsk
		}
	}
	return api.OK
}

// date is a day of a good.
type date struct{ good, day int }

// calendar is how many pieces of each good there are on each day.
type calendar map[date]int

// totals produces all days of a good, and how many pieces there are up to each one.
func (c calendar) totals(good int) iter.Seq2[date, int] {
	return func(yield func(date, int) bool) {
		total := 0
		for day := range api.LackDays + 1 {
			at := date{good, day}
			total += c[at]
			if !yield(at, total) {
				return
			}
		}
	}
}

// arrivals returns how many pieces come on each day, if this truly came.
func (b book) arrivals(came []api.LackCame) calendar {
	all := calendar{}
	for delivery, c := range came {
		all[date{b.Deliveries[delivery].Good, c.Day}] += c.Many
	}
	return all
}

// latest returns what comes if all comes as late as it can, and as few as can be: by no day can fewer pieces have come.
func (b book) latest() []api.LackCame {
	var came []api.LackCame
	for _, d := range b.Deliveries {
		came = append(came, api.LackCame{Day: d.Days.High, Many: d.By.Low})
	}
	return came[:len(came):len(came)]
}

// keeps reports whether the list of a good can be kept: up to each day no more of it is due than surely comes.
func (b book) keeps(good int, list []waiting) bool {
	spare := b.arrivals(b.latest())
	for _, w := range list {
		spare[w.date] -= w.many
	}
	for _, many := range spare.totals(good) {
		if many < 0 {
			return false
		}
	}
	return true
}

// asking is a day of a good that is asked about.
type asking struct {
	book
	date
}

func (a asking) isThere() bool { return a.hasGood(a.good) && spans.Has(limits[ofUntils], a.day) }

func (a asking) surely() int {
	surely := 0
	for by, many := range a.arrivals(a.latest()).totals(a.good) {
		if by == a.date {
			surely = many
		}
	}
	return surely
}
