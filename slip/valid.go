package slip

import (
	"wishbook/api"
	"wishbook/sets"
	"wishbook/spans"
)

// The rows of limits.
const (
	ofShelves = iota
	ofFars
	ofSteps
	ofPicks
	ofCarries
	ofSlips
	ofUntils
	ofLines
	ofPieces
	ofPickers
)

// limits is between what lies each number that is given, or how many things there are.
var limits = [...]api.Span{
	ofShelves: {Low: 1, High: api.SlipShelves},
	ofFars:    {Low: 0, High: api.SlipFar},
	ofSteps:   {Low: 1, High: api.SlipStep},
	ofPicks:   {Low: 0, High: api.SlipPick},
	ofCarries: {Low: 1, High: api.SlipPieces},
	ofSlips:   {Low: 0, High: api.SlipSlips},
	ofUntils:  {Low: 0, High: api.SlipSecond},
	ofLines:   {Low: 1, High: api.SlipShelves},
	ofPieces:  {Low: 1, High: api.SlipPieces},
	ofPickers: {Low: 1, High: api.SlipPickers},
}

func (f floor) isValid() bool {
	if !f.areShelves() || !spans.IsWithin(limits[ofSteps], f.Step) || !spans.Has(limits[ofCarries], f.Carry) {
		return false
	}
	if !spans.Has(limits[ofSlips], len(f.Slips)) {
		return false
	}
	for _, s := range f.Slips {
		if !spans.Has(limits[ofUntils], s.Until) || !f.areLines(s.Lines) {
			return false
		}
	}
	return true
}

func (f floor) areShelves() bool {
	if !spans.Has(limits[ofShelves], len(f.Far)) || len(f.Pick) != len(f.Far) {
		return false
	}
	for shelf, far := range f.Far {
		if !spans.Has(limits[ofFars], far) || shelf > 0 && far < f.Far[shelf-1] {
			return false
		}
		if !spans.IsWithin(limits[ofPicks], f.Pick[shelf]) {
			return false
		}
	}
	return true
}

// areLines reports whether lines, of a slip or of a tour, have shelves of the floor, at least one, strictly increasing, and pieces of each.
// A tour without a shelf would have no farthest one, which says how many steps it takes.
func (f floor) areLines(lines []api.SlipLine) bool {
	if !spans.Has(limits[ofLines], len(lines)) {
		return false
	}
	next := 0
	for _, l := range lines {
		if l.Shelf < next || l.Shelf >= len(f.Far) || !spans.Has(limits[ofPieces], l.Many) {
			return false
		}
		next = l.Shelf + 1
	}
	return true
}

func (f floor) hasSlip(slip int) bool {
	return 0 <= slip && slip < len(f.Slips)
}

func (f floor) isRoster(roster [][]int) bool {
	if !spans.Has(limits[ofPickers], len(roster)) {
		return false
	}
	var given sets.Set
	for _, list := range roster {
		for _, slip := range list {
			if !f.hasSlip(slip) || given.Has(slip) {
				return false
			}
			given = given.With(slip)
		}
	}
	return given == f.all()
}
