package namesake

import (
	"cmp"
	"slices"

	"wishbook/api"
	"wishbook/lists"
	"wishbook/spans"
)

// The rows of limits.
const (
	ofLetters = iota
	ofDays
	ofYears
	ofAccounts
	ofPlaces
	ofWays
	ofPairs
	ofPeople
)

// limits is between what lies each number that is given, or how many things there are.
var limits = [...]api.Span{
	ofLetters:  {Low: 1, High: api.NamesakeLetters},
	ofDays:     {Low: 0, High: api.MaxDay},
	ofYears:    {Low: 0, High: api.NamesakeBorn},
	ofAccounts: {Low: 0, High: 1000},
	ofPlaces:   {Low: 1, High: api.NamesakePlaces},
	ofWays:     {Low: 0, High: api.NamesakeFar},
	ofPairs:    {Low: 0, High: 8},
	ofPeople:   {Low: 1, High: api.NamesakeLetters},
}

func (b book) isValid() bool {
	return b.areWays() &&
		lists.Are(limits[ofLetters], b.Letters, b.isLetter) &&
		slices.IsSortedFunc(b.Letters, soonest) &&
		lists.Are(limits[ofPairs], b.Apart, b.isPair) &&
		areDifferent(b.Apart) &&
		spans.Has(limits[ofPeople], b.Most)
}

func (b book) areWays() bool {
	if !spans.Has(limits[ofPlaces], len(b.Far)) {
		return false
	}
	for place, ways := range b.Far {
		if !lists.Are(spans.One(len(b.Far)), ways, isWay) || ways[place] != 0 {
			return false
		}
	}
	return true
}

func isWay(days int) bool { return spans.Has(limits[ofWays], days) }

func (b book) isLetter(l api.NamesakeLetter) bool {
	return spans.Has(limits[ofDays], l.Day) &&
		spans.Has(spans.Below(len(b.Far)), l.Place) &&
		spans.IsWithin(limits[ofYears], l.Born) &&
		spans.Has(limits[ofAccounts], l.Account)
}

func soonest(one, other api.NamesakeLetter) int { return cmp.Compare(one.Day, other.Day) }

func (b book) hasLetter(number int) bool { return spans.Has(spans.Below(len(b.Letters)), number) }

func (b book) isPair(p [2]int) bool {
	return b.hasLetter(p[0]) && b.hasLetter(p[1]) && p[0] < p[1]
}

func areDifferent(pairs [][2]int) bool {
	known := map[pair]bool{}
	for _, p := range pairs {
		known[pair{p[0], p[1]}] = true
	}
	return len(known) == len(pairs)
}
