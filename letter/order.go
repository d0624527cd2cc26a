package letter

import (
	"slices"

	"wishbook/api"
)

// order is what each line of an order says (nothing, where the letter has no line).
type order [api.LetterLines]values

// values is what a line says: its good (LetterGood), size, colour, and how many pieces.
type values [api.LetterMany + 1]int

// meant is a line that is meant.
type meant struct{ api.BookLine }

func (m meant) good() int { return m.Item.Good }

func (m meant) size() int { return m.Item.Size }

func (m meant) colour() int { return m.Item.Colour }

func (m meant) many() int { return m.Many }

func valuesOf(l api.BookLine) values {
	tellings := [...]func(meant) int{
		api.LetterGood:   meant.good,
		api.LetterSize:   meant.size,
		api.LetterColour: meant.colour,
		api.LetterMany:   meant.many,
	}
	var v values
	for field, tell := range tellings {
		v[field] = tell(meant{l})
	}
	return v
}

func (v values) item() api.BookItem {
	return api.BookItem{Good: v[api.LetterGood], Size: v[api.LetterSize], Colour: v[api.LetterColour]}
}

func (v values) line() api.BookLine {
	return api.BookLine{Item: v.item(), Many: v[api.LetterMany]}
}

// lines returns the first lines of an order.
func (o order) lines(many int) []api.BookLine {
	list := make([]api.BookLine, 0, many)
	for _, v := range o[:many:many] {
		list = append(list, v.line())
	}
	return list[:len(list):len(list)]
}

// common returns what two orders have in common, with -1 where they differ.
func (o order) common(other order) order {
	for k := range o {
		for field := range o[k] {
			if o[k][field] != other[k][field] {
				o[k][field] = -1
			}
		}
	}
	return o
}

func compareOrders(one, other order) int {
	return slices.CompareFunc(one[:], other[:], func(v, w values) int { return slices.Compare(v[:], w[:]) })
}

func compareItems(one, other api.BookItem) int {
	v, w := valuesOf(api.BookLine{Item: one}), valuesOf(api.BookLine{Item: other})
	return slices.Compare(v[:], w[:])
}
