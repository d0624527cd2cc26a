package lack_test

import (
	"cmp"
	"math"
	"math/rand"
	"slices"
	"testing"

	"wishbook/api"
	"wishbook/lack"
	"wishbook/sample"
)

// The least numbers, and the greatest ones, and what lies around zero.
var extremes = []int{math.MinInt, math.MinInt + 1, -1, 0, 1, math.MaxInt - 1, math.MaxInt}

var span = sample.Span

func list(numbers ...int) []int { return numbers }

func line(order, good, many, until, instead int) api.LackLine {
	return api.LackLine{Order: order, Good: good, Many: many, Until: until, Instead: instead}
}

// wanted is a line of the order 0 without a good that may be sent instead.
func wanted(good, many, until int) api.LackLine { return line(0, good, many, until, -1) }

func delivery(good, first, last, least, most int) api.LackDelivery {
	return api.LackDelivery{Good: good, Days: span(first, last), By: span(least, most)}
}

// comes is a delivery of which all is known.
func comes(good, day, many int) api.LackDelivery { return delivery(good, day, day, many, many) }

func share(sent, instead, listed, refused int) api.LackShare {
	return api.LackShare{Sent: sent, Instead: instead, Listed: listed, Refused: refused}
}

// came is what came, day and many of each delivery.
func came(numbers ...int) []api.LackCame {
	var list []api.LackCame
	for pair := range slices.Chunk(numbers, 2) {
		list = append(list, api.LackCame{Day: pair[0], Many: pair[1]})
	}
	return list
}

// example is the book of the chapter.
func example() api.LackBook {
	return api.LackBook{
		Stock:      list(5, 2, 0),
		Lines:      []api.LackLine{line(0, 0, 3, 10, -1), line(0, 1, 4, 20, 0), line(1, 2, 6, 30, -1), line(2, 2, 5, 15, -1), line(2, 0, 2, 40, -1)},
		Deliveries: []api.LackDelivery{delivery(2, 5, 12, 4, 6), delivery(2, 20, 28, 3, 9), delivery(0, 30, 35, 1, 1)},
	}
}

// soldOut is a book of two goods of which nothing is in stock.
func soldOut(lines []api.LackLine, deliveries ...api.LackDelivery) api.LackBook {
	return api.LackBook{Stock: list(0, 0), Lines: lines, Deliveries: deliveries}
}

// largest is a valid book with as many things as there can be, and the greatest numbers.
func largest() api.LackBook {
	return api.LackBook{
		Stock:      slices.Repeat(list(api.LackStock), api.LackGoods),
		Lines:      slices.Repeat([]api.LackLine{line(9, 4, api.LackMany, api.LackDays, 3)}, api.LackLines),
		Deliveries: slices.Repeat([]api.LackDelivery{comes(4, api.LackDays, 50)}, api.LackDeliveries),
	}
}

// clone copies a book wholly, and leaves free room behind each list, with what no valid book has.
func clone(b api.LackBook) api.LackBook {
	b.Stock = sample.Roomy(b.Stock, -1)
	b.Lines = sample.Roomy(b.Lines, wanted(-1, -1, -1))
	b.Deliveries = sample.Roomy(b.Deliveries, comes(-1, -1, -1))
	return b
}

// someLine returns some line of a book, often of a good of which there is little.
func someLine(d sample.Dice, b api.LackBook) api.LackLine {
	l := line(d(10), d(len(b.Stock)), 1+d(6), d(20), -1)
	if instead := d(len(b.Stock)); instead != l.Good && d(2) == 0 {
		l.Instead = instead
	}
	return l
}

// someDelivery returns some delivery, within few days of which, and few pieces, it comes.
func someDelivery(d sample.Dice, b api.LackBook) api.LackDelivery {
	first, least := 1+d(10), d(7)
	return delivery(d(len(b.Stock)), first, first+d(3), least, least+d(3))
}

// someBook returns some valid book, with small numbers, so that lines often wait for the same pieces.
func someBook(d sample.Dice, goods, lines, deliveries int) api.LackBook {
	var b api.LackBook
	for range 1 + d(goods) {
		b.Stock = append(b.Stock, max(0, d(16)-6))
	}
	for range 1 + d(lines) {
		b.Lines = append(b.Lines, someLine(d, b))
	}
	for range d(deliveries + 1) {
		b.Deliveries = append(b.Deliveries, someDelivery(d, b))
	}
	return b
}

// wideBook returns some valid book, with numbers of any size.
func wideBook(d sample.Dice) api.LackBook {
	b := someBook(d, api.LackGoods, api.LackLines, api.LackDeliveries)
	for i := range b.Stock {
		b.Stock[i] = d(api.LackStock+1) * d(2)
	}
	for i := range b.Lines {
		b.Lines[i].Many, b.Lines[i].Until = 1+d(api.LackMany), d(api.LackDays+1)
	}
	for i := range b.Deliveries {
		b.Deliveries[i].Days, b.Deliveries[i].By = d.Span(1, api.LackDays), d.Span(0, 50)
	}
	return b
}

// eachOf does something with the example, and with many random books, always the same ones.
func eachOf(t *testing.T, many int, make func(d sample.Dice) api.LackBook, do func(d sample.Dice, b api.LackBook)) {
	t.Helper()
	rnd := rand.New(rand.NewSource(10))
	do(rnd.Intn, example())
	for range many {
		b := make(rnd.Intn)
		if e := lack.Check(b); e != api.OK {
			t.Fatalf("Check of the valid book %v: %d", b, e)
		}
		do(rnd.Intn, b)
	}
}

// eachBook does something with small books, and with wide ones.
func eachBook(t *testing.T, many int, do func(d sample.Dice, b api.LackBook)) {
	t.Helper()
	eachOf(t, many, func(d sample.Dice) api.LackBook {
		if d(4) == 0 {
			return wideBook(d)
		}
		return someBook(d, 1+d(api.LackGoods), api.LackLines, api.LackDeliveries)
	}, do)
}

// plainSurely is what the definition says of pieces that surely come, word by word.
func plainSurely(deliveries []api.LackDelivery, good, day int) int {
	many := 0
	for _, d := range deliveries {
		if d.Good == good && d.Days.High <= day {
			many += d.By.Low
		}
	}
	return many
}

// canBeKept is what the definition says of the list of a good, if so many pieces of each of the first lines are listed.
func canBeKept(b api.LackBook, good int, listed []int) bool {
	for day := range 101 {
		many := 0
		for i, n := range listed {
			if b.Lines[i].Good == good && b.Lines[i].Until <= day {
				many += n
			}
		}
		if many > plainSurely(b.Deliveries, good, day) {
			return false
		}
	}
	return true
}

// plainServe is what the definition says of lines, piece by piece, and what is left in stock then.
// A piece more is listed as long as the list can be kept, as it can be with fewer pieces wherever it can be with more.
func plainServe(b api.LackBook) (shares []api.LackShare, left []int) {
	left = slices.Clone(b.Stock)
	var listed []int
	for i, l := range b.Lines {
		var s api.LackShare
		listed = append(listed, 0)
		isFull := false
		for range l.Many {
			switch {
			case left[l.Good] > 0:
				s.Sent, left[l.Good] = s.Sent+1, left[l.Good]-1
				continue
			case l.Instead >= 0 && left[l.Instead] > 0:
				s.Instead, left[l.Instead] = s.Instead+1, left[l.Instead]-1
				continue
			}
			if listed[i]++; !isFull && canBeKept(b, l.Good, listed) {
				s.Listed++
				continue
			}
			isFull = true
			s.Refused++
			listed[i] = s.Listed
		}
		shares = append(shares, s)
	}
	return shares, left
}

// listedOf is how many pieces of each line are listed.
func listedOf(shares []api.LackShare) []int {
	var listed []int
	for _, s := range shares {
		listed = append(listed, s.Listed)
	}
	return listed
}

// plainThere gives out what came, piece by piece, and returns the day on which each line of the good is there: -1, if nothing of it is listed, and 0, if not all of it comes.
func plainThere(b api.LackBook, good int, listed []int, truth []api.LackCame) []int {
	there := slices.Repeat(list(-1), len(b.Lines))
	left := make([]int, len(b.Lines))
	for i, n := range listed {
		if b.Lines[i].Good == good && n > 0 {
			left[i], there[i] = n, 0
		}
	}
	var order []int
	for i, d := range b.Deliveries {
		if d.Good == good {
			order = append(order, i)
		}
	}
	slices.SortStableFunc(order, func(one, other int) int { return cmp.Compare(truth[one].Day, truth[other].Day) })
	for _, delivery := range order {
		for range truth[delivery].Many {
			next := -1
			for i, n := range left {
				if n > 0 && (next < 0 || b.Lines[i].Until < b.Lines[next].Until) {
					next = i
				}
			}
			if next < 0 {
				return there
			}
			if left[next]--; left[next] == 0 {
				there[next] = truth[delivery].Day
			}
		}
	}
	return there
}

// eachTruth does something with all that truly can have come.
func eachTruth(b api.LackBook, do func(truth []api.LackCame)) {
	truth := make([]api.LackCame, len(b.Deliveries))
	var choose func(i int)
	choose = func(i int) {
		if i == len(truth) {
			do(truth)
			return
		}
		d := b.Deliveries[i]
		for day := d.Days.Low; day <= d.Days.High; day++ {
			for many := d.By.Low; many <= d.By.High; many++ {
				truth[i] = api.LackCame{Day: day, Many: many}
				choose(i + 1)
			}
		}
	}
	choose(0)
}

// someTruth is something that truly can have come.
func someTruth(d sample.Dice, b api.LackBook) []api.LackCame {
	var truth []api.LackCame
	for _, x := range b.Deliveries {
		truth = append(truth, api.LackCame{Day: x.Days.Low + d(x.Days.High-x.Days.Low+1), Many: x.By.Low + d(x.By.High-x.By.Low+1)})
	}
	return truth
}

// later is the book with a delivery that is later by so many days.
func later(b api.LackBook, delivery, days int) api.LackBook {
	b = clone(b)
	b.Deliveries[delivery].Days.Low += days
	b.Deliveries[delivery].Days.High += days
	return b
}

// without is the book without a delivery.
func without(b api.LackBook, delivery int) api.LackBook {
	b = clone(b)
	b.Deliveries = slices.Delete(b.Deliveries, delivery, delivery+1)
	return b
}
