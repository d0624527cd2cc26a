package parcel

import (
	"cmp"
	"slices"

	"wishbook/api"
	"wishbook/lists"
)

// lot is some stamps: how many of each value.
type lot [api.ParcelStamps]int

// with returns the lot with one stamp more.
func (l lot) with(stamp int) lot {
	l[stamp]++
	return l
}

func (l lot) many() int {
	return lists.Sum(func(many int) int { return many }, l[:]...)
}

// isBetter reports whether a lot is told rather than another one that is worth as much.
func (l lot) isBetter(than lot) bool {
	return cmp.Or(cmp.Compare(l.many(), than.many()), slices.Compare(l[:], than[:])) < 0
}

// stamps returns the stamps for some cents.
func (b book) stamps(cents int) []int {
	// For each worth, from 0 on, the best lot that is worth just so much: none, where there is none. The least stamps alone are worth enough by the end of this room.
	lots := make([]lot, 1, cents+b.Stamps[0])
	least := 0
	for worth := 1; least < cents; worth++ {
		l := b.next(lots)
		lots = append(lots, l)
		if l != (lot{}) {
			least = worth
		}
	}
	list := slices.Clone(lots[least][:len(b.Stamps)])
	return list[:len(list):len(list)]
}

// next returns the best lot that is worth one cent more than the last one. Without any one of its stamps it is a best one, too.
func (b book) next(lots []lot) lot {
	var best lot
	for stamp, value := range b.Stamps {
		rest := len(lots) - value
		if rest < 0 || rest > 0 && lots[rest] == (lot{}) {
			continue
		}
		if l := lots[rest].with(stamp); best == (lot{}) || l.isBetter(best) {
			best = l
		}
	}
	return best
}
