package book

import (
	"slices"

	"wishbook/api"
	"wishbook/spans"
)

// offer is a book that has an item, and its price there.
type offer struct {
	catalogue
	price int
}

// offers returns what the books offer an item for whose prices are held on some of these days.
// It is asked once for many days: which books have the item does not change.
func (r rack) offers(days api.Span, item api.BookItem) []offer {
	var list []offer
books:
	for _, c := range r.books(holding, days) {
		e, ok := c.entryOfGood(item.Good)
		if !ok || !coloursOf(e.Colours)[item.Colour] {
			continue books
		}
		for _, f := range e.Sizes {
			if f.Size == item.Size {
				list = append(list, offer{c, f.Price})
				continue books
			}
		}
	}
	return list[:len(list):len(list)]
}

// priceOn returns the price of a day; false, if there is none.
func priceOn(offers []offer, day int) (int, bool) {
	price, ok := 0, false
	for _, o := range offers {
		if !o.holdsPrices(spans.One(day)) {
			continue
		}
		if !ok {
			price, ok = o.price, true
		}
		price = spans.Least(price, o.price)
	}
	return price, ok
}

func (r rack) prices(days api.Span, item api.BookItem) []int {
	offers := r.offers(days, item)
	var list []int
	for i := range spans.Count(days) {
		price, ok := priceOn(offers, days.Low+i)
		if ok && !slices.Contains(list, price) {
			list = append(list, price)
		}
	}
	slices.Sort(list)
	return list[:len(list):len(list)]
}

// last returns the last day with a price; false, if there is none.
func (r rack) last(item api.BookItem) (int, bool) {
	offers := r.offers(limits[ofDays], item)
	day := 0
	for _, o := range offers {
		day = max(day, o.Held)
	}
	return day, len(offers) > 0
}

// quote is all offers of a line, and how many of its pieces are paid.
type quote struct {
	offers []offer
	paid   int
}

func (r rack) quotes(days api.Span, lines []api.BookLine) []quote {
	list := make([]quote, 0, len(lines))
	for _, l := range lines {
		list = append(list, quote{r.offers(days, l.Item), l.Many - l.Many/api.BookDozen})
	}
	return list[:len(list):len(list)]
}

// sumOn returns the sum of a day; false, if some item has no price.
func sumOn(quotes []quote, day int) (int, bool) {
	sum := 0
	for _, q := range quotes {
		price, ok := priceOn(q.offers, day)
		if !ok {
			return 0, false
		}
		sum += price * q.paid
	}
	return sum, true
}

// cheapest returns the first day of those with the least sum, and this; false, if no day has a sum.
func (r rack) cheapest(days api.Span, lines []api.BookLine) (day, sum int, ok bool) {
	quotes := r.quotes(days, lines)
	for i := range spans.Count(days) {
		n, has := sumOn(quotes, days.Low+i)
		if has && (!ok || n < sum) {
			day, sum, ok = days.Low+i, n, true
		}
	}
	return day, sum, ok
}
