package letter

import (
	"wishbook/api"
	"wishbook/book"
	"wishbook/spans"
)

// The rows of limits.
const (
	ofDays = iota
	ofMoney
	ofLines
	ofDigits
	ofReads
	ofSizes
	ofSize
	ofFeet
	ofColourSets
	ofColours
	ofPieces
	ofCounts
)

// limits is between what lies each number that is given, or how many things there are.
var limits = [...]api.Span{
	ofDays:       {Low: 0, High: api.MaxDay},
	ofMoney:      {Low: 0, High: api.LetterMoney},
	ofLines:      {Low: 1, High: api.LetterLines},
	ofDigits:     {Low: 1, High: api.LetterDigits},
	ofReads:      {Low: 1, High: api.LetterReads},
	ofSizes:      {Low: 0, High: api.LetterSizes},
	ofSize:       {Low: 1, High: api.BookSize},
	ofFeet:       {Low: 1, High: api.BookFoot},
	ofColourSets: {Low: 1, High: 1<<api.BookColours - 1},
	ofColours:    {Low: 1, High: 2},
	ofPieces:     {Low: 1, High: api.BookMany},
	ofCounts:     {Low: 1, High: 2}, // how many numbers of pieces can be read
}

func isLetter(l api.LetterLetter) bool {
	if book.Check(l.Rack) != api.OK || !spans.IsWithin(limits[ofDays], l.Days) {
		return false
	}
	if !spans.IsWithin(limits[ofMoney], l.Money) || !spans.Has(limits[ofLines], len(l.Lines)) {
		return false
	}
	for _, ln := range l.Lines {
		if !(line{ln}).isValid() {
			return false
		}
	}
	return true
}

func (l line) isValid() bool {
	return l.areDigits() && l.areSizes() && l.isFoot() && l.areColours() && l.arePieces()
}

func (l line) areDigits() bool {
	if !spans.Has(limits[ofDigits], len(l.Digits)) {
		return false
	}
	ways := 1
	for _, set := range l.Digits {
		// The shift leaves the members that are no digits; of a set below 0 it leaves -1.
		if digitsOf(set) == (digits{}) || set>>len(digits{}) != 0 {
			return false
		}
		ways *= digitsOf(set).count()
	}
	return spans.Has(limits[ofReads], ways)
}

func (l line) areSizes() bool {
	if !spans.Has(limits[ofSizes], len(l.Sizes)) {
		return false
	}
	for i, size := range l.Sizes {
		if !spans.Has(limits[ofSize], size) || i > 0 && size <= l.Sizes[i-1] {
			return false
		}
	}
	return true
}

func (l line) isFoot() bool {
	if len(l.Sizes) > 0 {
		return l.Foot == api.Span{}
	}
	return spans.IsWithin(limits[ofFeet], l.Foot)
}

func (l line) areColours() bool {
	return spans.Has(limits[ofColourSets], l.Colours) && spans.Has(limits[ofColours], len(coloursOf(l.Colours)))
}

func (l line) arePieces() bool {
	return spans.IsWithin(limits[ofPieces], l.Many) && spans.Has(limits[ofCounts], spans.Count(l.Many))
}
