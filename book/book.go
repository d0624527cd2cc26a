// Package book knows the catalogues: goods whose numbers change from one book to the next, sizes that fit traced feet, and prices that are held until a day.
package book

import (
	"wishbook/api"
	"wishbook/spans"
)

// Check checks a rack.
func Check(r api.BookRack) api.Errno {
	if !(rack{r}).isValid() {
		return api.ErrBook
	}
	return api.OK
}

// Means returns what a number can mean on some days.
func Means(r api.BookRack, days api.Span, number int) ([]api.BookMeant, api.Errno) {
	if e := Check(r); e != api.OK {
		return nil, e
	}
	if !spans.IsWithin(limits[ofDays], days) || !spans.Has(limits[ofNumbers], number) {
		return nil, api.ErrBookAsk
	}
	return rack{r}.means(days, number), api.OK
}

// Number returns the number of a good in another book.
func Number(r api.BookRack, issue, number, other int) (int, api.Errno) {
	if e := Check(r); e != api.OK {
		return 0, e
	}
	here := rack{r}
	if !here.hasIssue(issue) || !here.hasIssue(other) || !spans.Has(limits[ofNumbers], number) {
		return 0, api.ErrBookAsk
	}
	good, ok := here.goods()[place{issue, number}]
	if !ok {
		return 0, api.ErrNone
	}
	e, ok := catalogue{r.Issues[other]}.entryOfGood(good)
	if !ok {
		return 0, api.ErrNone
	}
	return e.Number, api.OK
}

// Twins returns all numbers that mean different goods on a day.
func Twins(r api.BookRack, day int) ([]int, api.Errno) {
	if e := Check(r); e != api.OK {
		return nil, e
	}
	if !spans.Has(limits[ofDays], day) {
		return nil, api.ErrBookAsk
	}
	return rack{r}.twins(day), api.OK
}

// Price returns what an item costs on a day.
func Price(r api.BookRack, day int, item api.BookItem) (int, api.Errno) {
	if e := Check(r); e != api.OK {
		return 0, e
	}
	here := rack{r}
	if !spans.Has(limits[ofDays], day) || !here.isItem(item) {
		return 0, api.ErrBookAsk
	}
	price, ok := priceOn(here.offers(spans.One(day), item), day)
	if !ok {
		return 0, api.ErrNone
	}
	return price, api.OK
}

// Prices returns what an item can cost on some days.
func Prices(r api.BookRack, days api.Span, item api.BookItem) ([]int, api.Errno) {
	if e := Check(r); e != api.OK {
		return nil, e
	}
	here := rack{r}
	if !spans.IsWithin(limits[ofDays], days) || !here.isItem(item) {
		return nil, api.ErrBookAsk
	}
	return here.prices(days, item), api.OK
}

// Last returns the last day on which an item has a price.
func Last(r api.BookRack, item api.BookItem) (int, api.Errno) {
	if e := Check(r); e != api.OK {
		return 0, e
	}
	here := rack{r}
	if !here.isItem(item) {
		return 0, api.ErrBookAsk
	}
	day, ok := here.last(item)
	if !ok {
		return 0, api.ErrNone
	}
	return day, api.OK
}

// Sum returns what lines cost on a day.
func Sum(r api.BookRack, day int, lines []api.BookLine) (int, api.Errno) {
	if e := Check(r); e != api.OK {
		return 0, e
	}
	here := rack{r}
	if !spans.Has(limits[ofDays], day) || !areLines(lines, here.isItem) {
		return 0, api.ErrBookAsk
	}
	sum, ok := sumOn(here.quotes(spans.One(day), lines), day)
	if !ok {
		return 0, api.ErrNone
	}
	return sum, api.OK
}

// Cheapest returns the day on which lines cost the least.
func Cheapest(r api.BookRack, days api.Span, lines []api.BookLine) (day, sum int, e api.Errno) {
	if e := Check(r); e != api.OK {
		return 0, 0, e
	}
	here := rack{r}
	if !spans.IsWithin(limits[ofDays], days) || !areLines(lines, here.isItem) {
		return 0, 0, api.ErrBookAsk
	}
	day, sum, ok := here.cheapest(days, lines)
	if !ok {
		return 0, 0, api.ErrNone
	}
	return day, sum, api.OK
}

// Fits returns all sizes that can fit a foot.
func Fits(r api.BookRack, issue, number int, foot api.Span) ([]int, api.Errno) {
	return look(rack{r}, issue, number, search{foot, spans.Meet})
}

// Sure returns the size that surely fits a foot.
func Sure(r api.BookRack, issue, number int, foot api.Span) (int, api.Errno) {
	sizes, e := look(rack{r}, issue, number, search{foot, spans.Covers})
	if e != api.OK {
		return 0, e
	}
	if len(sizes) == 0 {
		return 0, api.ErrNone
	}
	return sizes[0], api.OK
}
