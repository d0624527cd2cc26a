package book

import (
	"iter"
	"slices"

	"wishbook/api"
	"wishbook/spans"
)

// rack is a rack in the calculation.
type rack struct{ api.BookRack }

// catalogue is a book of a rack in the calculation.
type catalogue struct{ api.BookIssue }

// place is a book of a rack, and a number in it.
type place struct{ issue, number int }

// What can be told of a book on some days.
const (
	inUse = iota
	holding
)

func tellings() [2]func(catalogue, api.Span) bool {
	return [...]func(catalogue, api.Span) bool{inUse: catalogue.isInUse, holding: catalogue.holdsPrices}
}

func (c catalogue) isInUse(days api.Span) bool { return spans.Meet(c.Days, days) }

func (c catalogue) holdsPrices(days api.Span) bool { return spans.Meet(c.held(), days) }

// held is on which days the prices of a book are held: not always as long as it is in use, or longer.
func (c catalogue) held() api.Span { return api.Span{Low: c.Days.Low, High: c.Held} }

// find returns the first entry that is wanted; false, if there is none.
func (c catalogue) find(isWanted func(api.BookEntry) bool) (api.BookEntry, bool) {
	var look func(rest []api.BookEntry) (api.BookEntry, bool)
	look = func(rest []api.BookEntry) (api.BookEntry, bool) {
		if len(rest) == 0 {
			return api.BookEntry{}, false
		}
		if isWanted(rest[0]) {
			return rest[0], true
		}
		return look(rest[1:len(rest):len(rest)])
	}
	return look(c.Entries)
}

func (c catalogue) entryOfNumber(number int) (api.BookEntry, bool) {
	return c.find(func(e api.BookEntry) bool { return e.Number == number })
}

func (c catalogue) entryOfGood(good int) (api.BookEntry, bool) {
	return c.find(func(e api.BookEntry) bool { return e.Good == good })
}

// books produces the books of which something (inUse, holding) is so on some of these days, and their numbers.
func (r rack) books(told int, days api.Span) iter.Seq2[int, catalogue] {
	isSo := tellings()[told]
	return func(yield func(int, catalogue) bool) {
		for i, b := range r.Issues {
			c := catalogue{b}
			if isSo(c, days) && !yield(i, c) {
				return
			}
		}
	}
}

// goods returns which good each number of each book means.
func (r rack) goods() map[place]int {
	goods := map[place]int{}
	for i, b := range r.Issues {
		for _, e := range b.Entries {
			goods[place{i, e.Number}] = e.Good
		}
	}
	return goods
}

func (r rack) means(days api.Span, number int) []api.BookMeant {
	goods := r.goods()
	var list []api.BookMeant
	for i := range r.books(inUse, days) {
		if good, ok := goods[place{i, number}]; ok {
			list = append(list, api.BookMeant{Issue: i, Good: good})
		}
	}
	return list[:len(list):len(list)]
}

func (r rack) twins(day int) []int {
	goods := r.goods()
	var list []int
	for here := range r.placesInUse(day) {
		for there := range r.placesInUse(day) {
			if there == here || there.number != here.number {
				continue
			}
			if goods[there] != goods[here] {
				list = append(list, here.number)
			}
		}
	}
	slices.Sort(list)
	list = slices.Compact(list) // each of the two books has told the number
	return list[:len(list):len(list)]
}

func (r rack) placesInUse(day int) iter.Seq[place] {
	return func(yield func(place) bool) {
		for i, c := range r.books(inUse, spans.One(day)) {
			for _, e := range c.Entries {
				if !yield(place{i, e.Number}) {
					return
				}
			}
		}
	}
}
