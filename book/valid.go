package book

import (
	"wishbook/api"
	"wishbook/spans"
)

// The rows of limits.
const (
	ofGoods = iota
	ofIssues
	ofEntries
	ofDays
	ofNumbers
	ofFits
	ofSizes
	ofFeet
	ofPrices
	ofColours
	ofLines
	ofPieces
)

// limits is between what lies each number that is given, or how many things there are.
var limits = [...]api.Span{
	ofGoods:   {Low: 1, High: api.BookGoods},
	ofIssues:  {Low: 1, High: api.BookIssues},
	ofEntries: {Low: 0, High: api.BookGoods},
	ofDays:    {Low: 0, High: api.MaxDay},
	ofNumbers: {Low: 1, High: api.BookNumber},
	ofFits:    {Low: 1, High: api.BookSizes},
	ofSizes:   {Low: 1, High: api.BookSize},
	ofFeet:    {Low: 1, High: api.BookFoot},
	ofPrices:  {Low: 1, High: api.BookPrice},
	ofColours: {Low: 0, High: api.BookColours - 1},
	ofLines:   {Low: 0, High: api.BookLines},
	ofPieces:  {Low: 1, High: api.BookMany},
}

func (r rack) isValid() bool {
	if !spans.Has(limits[ofGoods], r.Goods) || !spans.Has(limits[ofIssues], len(r.Issues)) {
		return false
	}
	for _, b := range r.Issues {
		if !r.isCatalogue(catalogue{b}) {
			return false
		}
	}
	return true
}

func (r rack) isCatalogue(c catalogue) bool {
	// The span of held prices begins with the first day, so that it is one just if Held is not before it.
	if !spans.IsWithin(limits[ofDays], c.Days) || !spans.IsWithin(limits[ofDays], c.held()) || !spans.Has(limits[ofEntries], len(c.Entries)) {
		return false
	}
	for i, e := range c.Entries {
		if !r.isEntry(e) || isRepeated(c.Entries[:i:i], e) {
			return false
		}
	}
	return true
}

func isRepeated(before []api.BookEntry, e api.BookEntry) bool {
	for _, other := range before {
		if other.Number == e.Number || other.Good == e.Good {
			return true
		}
	}
	return false
}

func (r rack) isEntry(e api.BookEntry) bool {
	return spans.Has(limits[ofNumbers], e.Number) && r.isGood(e.Good) && isColourSet(e.Colours) && areFits(e.Sizes)
}

func (r rack) isGood(good int) bool {
	return 0 <= good && good < r.Goods
}

func isColourSet(set int) bool {
	// The shift leaves the members that are no colours; of a set below 0 it leaves -1.
	return coloursOf(set) != [api.BookColours]bool{} && set>>api.BookColours == 0
}

func coloursOf(set int) [api.BookColours]bool {
	var has [api.BookColours]bool
	for colour := range has {
		has[colour] = set>>colour&1 == 1
	}
	return has
}

func areFits(list []api.BookFit) bool {
	if !spans.Has(limits[ofFits], len(list)) {
		return false
	}
	for i, f := range list {
		if !spans.Has(limits[ofSizes], f.Size) || !spans.IsWithin(limits[ofFeet], f.Foot) || !spans.Has(limits[ofPrices], f.Price) {
			return false
		}
		if i > 0 && f.Size <= list[i-1].Size {
			return false
		}
	}
	return true
}

func (r rack) isItem(item api.BookItem) bool {
	return r.isGood(item.Good) && spans.Has(limits[ofSizes], item.Size) && spans.Has(limits[ofColours], item.Colour)
}

func (r rack) hasIssue(issue int) bool {
	return 0 <= issue && issue < len(r.Issues)
}

func areLines(lines []api.BookLine, isItem func(api.BookItem) bool) bool {
	if !spans.Has(limits[ofLines], len(lines)) {
		return false
	}
	for _, l := range lines {
		if !isItem(l.Item) || !spans.Has(limits[ofPieces], l.Many) {
			return false
		}
	}
	return true
}
