package shelf

import (
	"slices"

	"wishbook/api"
)

// place is a shelf of a book. What happens on one says nothing of another one, so each is followed by itself.
type place struct {
	book
	shelf int
}

func (p place) room() api.Span { return roomOf(p.Shelves[p.shelf]) }

// first is the moment before all days.
func (p place) first() moment { return moment{day: -1} }

// last is the moment behind all days, by which all deliveries have come.
func (p place) last() moment {
	m := moment{day: p.Days - 1}
	for delivery, d := range p.Deliveries {
		m.came[delivery] = d.Shelf == p.shelf
	}
	return m
}

// linksOn returns all ways in which a day can go.
func (p place) linksOn(day int) []link {
	list := []link{{from: moment{day: day - 1}, to: moment{day: day}}}
	for number, d := range p.Deliveries {
		if d.Shelf != p.shelf {
			continue
		}
		var more []link
		for _, l := range list {
			more = slices.AppendSeq(more, l.with(number, d))
		}
		list = more
	}
	steps := p.stepsOn(day)
	for i, l := range list {
		list[i] = l.then(steps...)
	}
	return list[:len(list):len(list)]
}

// stepsOn returns what follows when all deliveries of a day have come.
func (p place) stepsOn(day int) []step {
	var list []step
	for _, m := range p.Moves {
		if m.Day == day && m.Shelf == p.shelf {
			list = append(list, stepOf(m))
		}
	}
	for _, c := range p.Counts {
		if c.Day == day && c.Shelf == p.shelf {
			list = append(list, step{byCount, api.Span{Low: c.Read - c.Err, High: c.Read + c.Err}})
		}
	}
	return list[:len(list):len(list)]
}

// reached returns what can be there at each moment, whatever is behind it.
func (p place) reached() map[moment]stock {
	can := map[moment]stock{p.first(): stockOf(p.Shelves[p.shelf].Begin)}
	for day := range p.Days {
		for _, l := range p.linksOn(day) {
			can[l.to] = can[l.to].or(l.forth(can[l.from], p.room()))
		}
	}
	return can
}

// goesOn returns what can be there at each moment, so that all that is behind it can be.
func (p place) goesOn() map[moment]stock {
	can := map[moment]stock{p.last(): stockOf(p.room())}
	for behind := range p.Days {
		for _, l := range p.linksOn(p.Days - 1 - behind) {
			can[l.from] = can[l.from].or(l.back(can[l.to], p.room()))
		}
	}
	return can
}

// canBe reports whether all that is known of the shelf can be true.
func (p place) canBe() bool {
	return p.reached()[p.last()] != stock{}
}

// stocks returns what can be there at the end of each day, if all that is known is true.
func (p place) stocks() [api.ShelfDays]stock {
	var list [api.ShelfDays]stock
	goesOn := p.goesOn()
	for m, s := range p.reached() {
		if m != p.first() {
			list[m.day] = list[m.day].or(s.and(goesOn[m]))
		}
	}
	return list
}
