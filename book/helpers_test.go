package book_test

import (
	"math"
	"math/rand"
	"slices"
	"testing"

	"wishbook/api"
	"wishbook/book"
)

func span(low, high int) api.Span { return api.Span{Low: low, High: high} }

func fit(size, low, high, price int) api.BookFit {
	return api.BookFit{Size: size, Foot: span(low, high), Price: price}
}

func entry(number, good, colours int, sizes ...api.BookFit) api.BookEntry {
	return api.BookEntry{Number: number, Good: good, Colours: colours, Sizes: sizes}
}

func item(good, size, colour int) api.BookItem {
	return api.BookItem{Good: good, Size: size, Colour: colour}
}

func line(many, good, size, colour int) api.BookLine {
	return api.BookLine{Item: item(good, size, colour), Many: many}
}

// example is the rack of the chapter.
func example() api.BookRack {
	return api.BookRack{Goods: 3, Issues: []api.BookIssue{
		{Days: span(100, 280), Held: 300, Entries: []api.BookEntry{
			entry(11, 0, 3, fit(40, 250, 258, 900), fit(41, 256, 264, 950)),
			entry(12, 1, 1, fit(7, 1, 400, 300)),
		}},
		{Days: span(260, 450), Held: 450, Entries: []api.BookEntry{
			entry(12, 0, 1, fit(40, 250, 258, 980), fit(42, 262, 270, 990)),
			entry(13, 2, 4, fit(1, 1, 400, 50)),
		}},
	}}
}

// largest is a valid rack with as many things as there can be, and the greatest numbers.
func largest() api.BookRack {
	r := api.BookRack{Goods: api.BookGoods}
	for i := range api.BookIssues {
		b := api.BookIssue{Days: span(0, api.MaxDay), Held: api.MaxDay}
		for good := range api.BookGoods {
			e := entry(api.BookNumber-good-i, good, 15)
			for k := range api.BookSizes {
				e.Sizes = append(e.Sizes, fit(api.BookSize-api.BookSizes+1+k, 1, api.BookFoot, api.BookPrice-i))
			}
			b.Entries = append(b.Entries, e)
		}
		r.Issues = append(r.Issues, b)
	}
	return r
}

// smallest is a valid rack with as little as there can be.
func smallest() api.BookRack {
	return api.BookRack{Goods: 1, Issues: []api.BookIssue{{}}}
}

// clone copies a rack wholly, and leaves free room behind each list, with what no valid rack has.
func clone(r api.BookRack) api.BookRack {
	wrong := api.BookFit{Size: -1}
	r.Issues = append(slices.Clone(r.Issues), api.BookIssue{Held: -1})
	for i := range r.Issues {
		b := &r.Issues[i]
		b.Entries = append(slices.Clone(b.Entries), api.BookEntry{Number: -1})
		for k := range b.Entries {
			sizes := append(slices.Clone(b.Entries[k].Sizes), wrong)
			b.Entries[k].Sizes = sizes[:len(sizes)-1]
		}
		b.Entries = b.Entries[:len(b.Entries)-1]
	}
	r.Issues = r.Issues[:len(r.Issues)-1]
	return r
}

// The least numbers, and the greatest ones, and what lies around zero.
var extremes = []int{math.MinInt, math.MinInt + 1, -1, 0, 1, math.MaxInt - 1, math.MaxInt}

// Small bounds, so that things of random racks often meet.
const (
	lastDay    = 24
	lastNumber = 9
	lastSize   = 6
	lastFoot   = 20
)

func randomSpan(rnd *rand.Rand, low, high int) api.Span {
	one, other := low+rnd.Intn(high-low+1), low+rnd.Intn(high-low+1)
	return span(min(one, other), max(one, other))
}

func randomIssue(rnd *rand.Rand, goods int) api.BookIssue {
	b := api.BookIssue{Days: randomSpan(rnd, 0, lastDay)}
	b.Held = b.Days.Low + rnd.Intn(lastDay-b.Days.Low+1)
	numbers := rnd.Perm(lastNumber)
	for k, good := range rnd.Perm(goods)[:rnd.Intn(goods+1)] {
		e := entry(numbers[k]+1, good, 1+rnd.Intn(15))
		for size := 1; size <= lastSize; size++ {
			if rnd.Intn(2) == 0 {
				foot := randomSpan(rnd, 1, lastFoot)
				e.Sizes = append(e.Sizes, fit(size, foot.Low, foot.High, 1+rnd.Intn(9)))
			}
		}
		if len(e.Sizes) > 0 {
			b.Entries = append(b.Entries, e)
		}
	}
	return b
}

func randomRack(rnd *rand.Rand) api.BookRack {
	r := api.BookRack{Goods: 1 + rnd.Intn(5)}
	for range 1 + rnd.Intn(api.BookIssues) {
		r.Issues = append(r.Issues, randomIssue(rnd, r.Goods))
	}
	return r
}

func randomItem(rnd *rand.Rand, r api.BookRack) api.BookItem {
	return item(rnd.Intn(r.Goods), 1+rnd.Intn(lastSize), rnd.Intn(api.BookColours))
}

func randomLines(rnd *rand.Rand, r api.BookRack) []api.BookLine {
	var lines []api.BookLine
	for range rnd.Intn(4) {
		lines = append(lines, api.BookLine{Item: randomItem(rnd, r), Many: 1 + rnd.Intn(40)})
	}
	return lines
}

// eachRack does something with the example, and with many random racks, always the same ones.
func eachRack(t *testing.T, many int, do func(rnd *rand.Rand, r api.BookRack)) {
	t.Helper()
	rnd := rand.New(rand.NewSource(1))
	for range many {
		r := randomRack(rnd)
		if e := book.Check(r); e != api.OK {
			t.Fatalf("Check of the valid rack %v: %d", r, e)
		}
		do(rnd, r)
	}
	do(rnd, example())
}

// plainPrice is what the definitions say of a price, word by word; 0, if there is none.
func plainPrice(r api.BookRack, day int, it api.BookItem) int {
	least := 0
	for _, b := range r.Issues {
		if p := priceIn(b, it); p > 0 && b.Days.Low <= day && day <= b.Held && (least == 0 || p < least) {
			least = p
		}
	}
	return least
}

// priceIn is the price of an item in a book; 0, if this does not have it.
func priceIn(b api.BookIssue, it api.BookItem) int {
	for _, e := range b.Entries {
		for _, f := range e.Sizes {
			if e.Good == it.Good && e.Colours>>it.Colour&1 == 1 && f.Size == it.Size {
				return f.Price
			}
		}
	}
	return 0
}

// plainSum is what lines cost on a day; -1, if some item has no price.
func plainSum(r api.BookRack, day int, lines []api.BookLine) int {
	sum := 0
	for _, l := range lines {
		p := plainPrice(r, day, l.Item)
		if p == 0 {
			return -1
		}
		for piece := 1; piece <= l.Many; piece++ {
			if piece%12 != 0 {
				sum += p
			}
		}
	}
	return sum
}

// entryOf is the entry of a number in a book; nil, if there is none.
func entryOf(b api.BookIssue, number int) *api.BookEntry {
	for k := range b.Entries {
		if b.Entries[k].Number == number {
			return &b.Entries[k]
		}
	}
	return nil
}
