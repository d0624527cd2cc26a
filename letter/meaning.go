package letter

import (
	"iter"

	"wishbook/api"
	"wishbook/book"
	"wishbook/spans"
)

// letter is a letter in the calculation, and the lines that can be read in it: by each book, of each of its lines.
type letter struct {
	api.LetterLetter
	readings [api.BookIssues][api.LetterLines][]api.BookLine
}

// meaning is an order that a letter can mean, on which days, and what it costs on each of them.
type meaning struct {
	order order
	days  api.Span
	cents int
}

func (m meaning) whole() order { return m.order }

func (m meaning) when() api.Span { return m.days }

func (m meaning) cost() api.Span { return spans.One(m.cents) }

// stretch is some days on which the same books are in use, and the same ones hold their prices: what can be meant on one of them can be on all.
type stretch struct {
	days api.Span
	state
}

// state is which books are in use, and which ones hold their prices.
type state struct{ inUse, holding [api.BookIssues]bool }

// priced is what a line that can be read says, and what it costs on some days.
type priced struct {
	values
	cents int
}

func opened(l api.LetterLetter) letter {
	here := letter{LetterLetter: l}
	entries := here.entries()
	for issue := range l.Rack.Issues {
		for k, ln := range l.Lines {
			here.readings[issue][k] = line{ln}.readings(entries, issue)
		}
	}
	return here
}

func (l letter) entries() map[place]api.BookEntry {
	entries := map[place]api.BookEntry{}
	for issue, b := range l.Rack.Issues {
		for _, e := range b.Entries {
			entries[place{issue, e.Number}] = e
		}
	}
	return entries
}

// only returns the letter in which nothing can be read but these lines.
func (l letter) only(lines []api.BookLine) letter {
	for issue := range l.readings {
		for k, wanted := range lines {
			var list []api.BookLine
			for _, r := range l.readings[issue][k] {
				if r == wanted {
					list = append(list, r)
				}
			}
			l.readings[issue][k] = list[:len(list):len(list)]
		}
	}
	return l
}

func (l letter) stretches() []stretch {
	var list []stretch
	for i := range spans.Count(l.Days) {
		day := l.Days.Low + i
		now := l.stateOn(day)
		if n := len(list); n > 0 && list[n-1].state == now {
			list[n-1].days.High = day
			continue
		}
		list = append(list, stretch{spans.One(day), now})
	}
	return list[:len(list):len(list)]
}

func (l letter) stateOn(day int) state {
	var s state
	for issue, b := range l.Rack.Issues {
		s.inUse[issue] = spans.Has(b.Days, day)
		s.holding[issue] = b.Days.Low <= day && day <= b.Held
	}
	return s
}

// meanings produces all that the letter can mean: an order several times, if it can be meant by several books, or on several stretches of days.
func (l letter) meanings() iter.Seq[meaning] {
	return func(yield func(meaning) bool) {
		for _, s := range l.stretches() {
			for issue, isUsed := range s.inUse {
				if isUsed && !l.readBy(issue, s.days, yield) {
					return
				}
			}
		}
	}
}

// readBy yields what can be meant by a book on some days; it returns false if no more is wanted.
func (l letter) readBy(issue int, days api.Span, yield func(meaning) bool) bool {
	lists := l.prices(issue, days)
	var read func(m meaning, k int) bool
	read = func(m meaning, k int) bool {
		if k == len(lists) {
			return !spans.Has(l.Money, m.cents) || yield(m)
		}
		for _, p := range lists[k] {
			next := m
			next.order[k] = p.values
			next.cents += p.cents
			if !read(next, k+1) {
				return false
			}
		}
		return true
	}
	return read(meaning{days: days}, 0)
}

// prices returns for each line what can be read in it by a book, and has a price on some days.
// Lines cost together what each of them costs: so each one is asked for once, and not in each order again.
func (l letter) prices(issue int, days api.Span) [][]priced {
	lists := make([][]priced, len(l.Lines))
	for k := range lists {
		for _, r := range l.readings[issue][k] {
			if cents, e := book.Sum(l.Rack, days.Low, []api.BookLine{r}); e == api.OK {
				lists[k] = append(lists[k], priced{valuesOf(r), cents})
			}
		}
	}
	return lists
}
