package book_test

import (
	"math"
	"math/rand"
	"testing"

	"wishbook/api"
	"wishbook/book"
	"wishbook/sample"
)

// What the tests of other layers use, too.
var (
	span    = sample.Span
	fit     = sample.Fit
	entry   = sample.Entry
	item    = sample.Item
	line    = sample.Line
	example = sample.Rack
	largest = sample.Largest
	clone   = sample.Copy
)

// smallest is a valid rack with as little as there can be.
func smallest() api.BookRack {
	return api.BookRack{Goods: 1, Issues: []api.BookIssue{{}}}
}

// The least numbers, and the greatest ones, and what lies around zero.
var extremes = []int{math.MinInt, math.MinInt + 1, -1, 0, 1, math.MaxInt - 1, math.MaxInt}

const (
	lastDay    = sample.LastDay
	lastNumber = sample.LastNumber
	lastSize   = sample.LastSize
	lastFoot   = sample.LastFoot
)

func randomSpan(rnd *rand.Rand, low, high int) api.Span { return sample.Dice(rnd.Intn).Span(low, high) }

func randomIssue(rnd *rand.Rand, goods int) api.BookIssue { return sample.Dice(rnd.Intn).Issue(goods) }

func randomRack(rnd *rand.Rand) api.BookRack { return sample.Dice(rnd.Intn).Rack() }

func randomItem(rnd *rand.Rand, r api.BookRack) api.BookItem {
	return item(rnd.Intn(r.Goods), 1+rnd.Intn(lastSize), rnd.Intn(api.BookColours))
}

func randomLines(rnd *rand.Rand, r api.BookRack) []api.BookLine {
	var lines []api.BookLine
	for range rnd.Intn(4) {
		lines = append(lines, api.BookLine{Item: randomItem(rnd, r), Many: 1 + rnd.Intn(40)})
	}
	return lines
}

// eachRack does something with the example, and with many random racks, always the same ones.
func eachRack(t *testing.T, many int, do func(rnd *rand.Rand, r api.BookRack)) {
	t.Helper()
	rnd := rand.New(rand.NewSource(1))
	for range many {
		r := randomRack(rnd)
		if e := book.Check(r); e != api.OK {
			t.Fatalf("Check of the valid rack %v: %d", r, e)
		}
		do(rnd, r)
	}
	do(rnd, example())
}

// plainPrice is what the definitions say of a price, word by word; 0, if there is none.
func plainPrice(r api.BookRack, day int, it api.BookItem) int {
	least := 0
	for _, b := range r.Issues {
		if p := priceIn(b, it); p > 0 && b.Days.Low <= day && day <= b.Held && (least == 0 || p < least) {
			least = p
		}
	}
	return least
}

// priceIn is the price of an item in a book; 0, if this does not have it.
func priceIn(b api.BookIssue, it api.BookItem) int {
	for _, e := range b.Entries {
		for _, f := range e.Sizes {
			if e.Good == it.Good && e.Colours>>it.Colour&1 == 1 && f.Size == it.Size {
				return f.Price
			}
		}
	}
	return 0
}

// plainSum is what lines cost on a day; -1, if some item has no price.
func plainSum(r api.BookRack, day int, lines []api.BookLine) int {
	sum := 0
	for _, l := range lines {
		p := plainPrice(r, day, l.Item)
		if p == 0 {
			return -1
		}
		for piece := 1; piece <= l.Many; piece++ {
			if piece%12 != 0 {
				sum += p
			}
		}
	}
	return sum
}

// entryOf is the entry of a number in a book; nil, if there is none.
func entryOf(b api.BookIssue, number int) *api.BookEntry {
	for k := range b.Entries {
		if b.Entries[k].Number == number {
			return &b.Entries[k]
		}
	}
	return nil
}
