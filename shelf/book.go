package shelf

import (
	"slices"

	"wishbook/api"
	"wishbook/choices"
)

// book is a book in the calculation.
type book struct{ api.ShelfBook }

// check returns the errors that functions share, in their order. Some ask about a thing, which must be there.
func (b book) check(isThere ...func() bool) api.Errno {
	if !b.isValid() {
		return api.ErrShelf
	}
	for _, is := range isThere {
		if !is() {
			return api.ErrShelfAsk
		}
	}
	if !b.canBeTrue() {
		return api.ErrShelfFalse
	}
	return api.OK
}

func (b book) canBeTrue() bool {
	for shelf := range b.Shelves {
		if !b.at(shelf).canBe() {
			return false
		}
	}
	return true
}

func (b book) at(shelf int) place { return place{b, shelf} }

// with returns the book with one count more.
func (b book) with(c api.ShelfCount) book {
	b.Counts = append(b.Counts[:len(b.Counts):len(b.Counts)], c)
	return b
}

// without returns the book without some counts.
func (b book) without(counts []int) book {
	var left []api.ShelfCount
	for number, c := range b.Counts {
		if !slices.Contains(counts, number) {
			left = append(left, c)
		}
	}
	b.Counts = left
	return b
}

// wrong returns the fewest counts without which the book can be true, the first list of them; false, if it never can.
func (b book) wrong() ([]int, bool) {
	var counts []int
	for number := range b.Counts {
		counts = append(counts, number)
	}
	for many := range len(counts) + 1 {
	lists:
		for wrong := range choices.Of(counts, many) {
			left := b.without(wrong)
			for shelf := range b.Shelves {
				if !left.at(shelf).canBe() {
					continue lists
				}
			}
			return wrong[:len(wrong):len(wrong)], true
		}
	}
	return nil, false
}

// idle returns all counts without each of which the same can be there. It is enough to look at the shelf that was counted.
func (b book) idle() []int {
	var list []int
	for number, c := range b.Counts {
		if b.without([]int{number}).at(c.Shelf).stocks() == b.at(c.Shelf).stocks() {
			list = append(list, number)
		}
	}
	return list[:len(list):len(list)]
}
