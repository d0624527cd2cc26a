package namesake

import (
	"iter"
	"slices"

	"wishbook/api"
	"wishbook/choices"
	"wishbook/sets"
)

// book is a book in the calculation.
type book struct{ api.NamesakeBook }

// check returns the errors that functions share. Some ask about letters, which must be there.
func (b book) check(isThere ...func() bool) api.Errno {
	if !b.isValid() {
		return api.ErrNamesake
	}
	for _, is := range isThere {
		if !is() {
			return api.ErrNamesakeAsk
		}
	}
	return api.OK
}

// truths produces all truths, the first ones first. Each one is new memory.
// A person who cannot have the letters so far is left: what keeps them apart does so with more letters behind them, too.
func (b book) truths() iter.Seq[[]int] {
	return func(yield func([]int) bool) {
		var try func(t telling) bool
		try = func(t telling) bool {
			if len(t.people) == len(b.Letters) {
				return yield(t.people)
			}
		people:
			for person := range b.Most {
				if !t.canGoOn(person) {
					continue people
				}
				if !try(t.with(person)) {
					return false
				}
			}
			return true
		}
		try(telling{book: b})
	}
}

func (b book) canBeTrue() bool {
	for range b.truths() {
		return true
	}
	return false
}

// torn returns the fewest letters without which there is a truth, the first list of them: nothing, if there is one already.
func (b book) torn() []int {
	letters := sets.Below(len(b.Letters)).Members()
	for many := range len(letters) {
		for gone := range choices.Of(letters, many) {
			if b.without(gone).canBeTrue() {
				return gone[:len(gone):len(gone)]
			}
		}
	}
	return letters // never: one letter alone has a truth
}

// without returns the book without some letters, and without the pairs that name one of them.
func (b book) without(gone []int) book {
	left := b
	left.Letters, left.Apart = nil, nil
	numbers := map[int]int{} // the new ones of the letters that are left
	for letter, l := range b.Letters {
		if !slices.Contains(gone, letter) {
			numbers[letter] = len(left.Letters)
			left.Letters = append(left.Letters, l)
		}
	}
	for _, p := range b.Apart {
		one, hasOne := numbers[p[0]]
		other, hasOther := numbers[p[1]]
		if hasOne && hasOther {
			left.Apart = append(left.Apart, [2]int{one, other})
		}
	}
	return left
}
