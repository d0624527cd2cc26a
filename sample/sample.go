// Package sample has the rack and the floor of the document's examples, and others, for the tests of all layers that have books or slips.
package sample

import (
	"slices"

	"wishbook/api"
)

// Span is a span.
func Span(low, high int) api.Span { return api.Span{Low: low, High: high} }

// Fit is a size.
func Fit(size, low, high, price int) api.BookFit {
	return api.BookFit{Size: size, Foot: Span(low, high), Price: price}
}

// Entry is an entry of a book.
func Entry(number, good, colours int, sizes ...api.BookFit) api.BookEntry {
	return api.BookEntry{Number: number, Good: good, Colours: colours, Sizes: sizes}
}

// Item is an item.
func Item(good, size, colour int) api.BookItem {
	return api.BookItem{Good: good, Size: size, Colour: colour}
}

// Line is so many pieces of an item.
func Line(many, good, size, colour int) api.BookLine {
	return api.BookLine{Item: Item(good, size, colour), Many: many}
}

// Rack is the rack of the chapter on books.
func Rack() api.BookRack {
	return api.BookRack{Goods: 3, Issues: []api.BookIssue{
		{Days: Span(100, 280), Held: 300, Entries: []api.BookEntry{
			Entry(11, 0, 3, Fit(40, 250, 258, 900), Fit(41, 256, 264, 950)),
			Entry(12, 1, 1, Fit(7, 1, 400, 300)),
		}},
		{Days: Span(260, 450), Held: 450, Entries: []api.BookEntry{
			Entry(12, 0, 1, Fit(40, 250, 258, 980), Fit(42, 262, 270, 990)),
			Entry(13, 2, 4, Fit(1, 1, 400, 50)),
		}},
	}}
}

// Largest is a valid rack with as many things as there can be, and the greatest numbers.
func Largest() api.BookRack {
	r := api.BookRack{Goods: api.BookGoods}
	for i := range api.BookIssues {
		b := api.BookIssue{Days: Span(0, api.MaxDay), Held: api.MaxDay}
		for good := range api.BookGoods {
			e := Entry(api.BookNumber-good-i, good, 1<<api.BookColours-1)
			for k := range api.BookSizes {
				e.Sizes = append(e.Sizes, Fit(api.BookSize-api.BookSizes+1+k, 1, api.BookFoot, api.BookPrice-i))
			}
			b.Entries = append(b.Entries, e)
		}
		r.Issues = append(r.Issues, b)
	}
	return r
}

// Copy copies a rack wholly, and leaves free room behind each list, with what no valid rack has.
func Copy(r api.BookRack) api.BookRack {
	r.Issues = Roomy(r.Issues, api.BookIssue{Held: -1})
	for i := range r.Issues {
		b := &r.Issues[i]
		b.Entries = Roomy(b.Entries, api.BookEntry{Number: -1})
		for k := range b.Entries {
			b.Entries[k].Sizes = Roomy(b.Entries[k].Sizes, api.BookFit{Size: -1})
		}
	}
	return r
}

// Roomy copies a list, and leaves free room behind it, with something there.
func Roomy[T any](list []T, behind T) []T {
	return append(slices.Clone(list), behind)[:len(list)]
}
