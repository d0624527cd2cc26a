package shelf_test

import (
	"math"
	"math/rand"
	"slices"
	"testing"

	"wishbook/api"
	"wishbook/sample"
	"wishbook/shelf"
)

var span = sample.Span

// The least numbers, and the greatest ones, and what lies around zero.
var extremes = []int{math.MinInt, math.MinInt + 1, -1, 0, 1, math.MaxInt - 1, math.MaxInt}

func list(numbers ...int) []int { return numbers }

func room(low, high, most int) api.ShelfShelf {
	return api.ShelfShelf{Begin: span(low, high), Room: most}
}

func slip(day, shelf, low, high int) api.ShelfMove {
	return api.ShelfMove{Day: day, Shelf: shelf, By: span(low, high)}
}

func back(day, shelf, low, high int) api.ShelfMove {
	return api.ShelfMove{Day: day, Shelf: shelf, Back: true, By: span(low, high)}
}

func delivery(shelf, first, last, low, high int) api.ShelfDelivery {
	return api.ShelfDelivery{Shelf: shelf, Days: span(first, last), By: span(low, high)}
}

func count(day, shelf, read, err int) api.ShelfCount {
	return api.ShelfCount{Day: day, Shelf: shelf, Read: read, Err: err}
}

// example is the book of the chapter.
func example() api.ShelfBook {
	return api.ShelfBook{
		Days:       5,
		Shelves:    []api.ShelfShelf{room(10, 12, 30), room(5, 5, 10)},
		Moves:      []api.ShelfMove{slip(0, 0, 3, 4), slip(2, 0, 5, 8), back(3, 0, 0, 2), slip(1, 1, 2, 2)},
		Deliveries: []api.ShelfDelivery{delivery(0, 1, 3, 10, 10)},
		Counts:     []api.ShelfCount{count(2, 0, 12, 2), count(1, 1, 3, 0)},
	}
}

// plainShelf is a book of one shelf that has room for 20 pieces, on 3 days, and so many pieces at first.
func plainShelf(low, high int, things ...any) api.ShelfBook {
	b := api.ShelfBook{Days: 3, Shelves: []api.ShelfShelf{room(low, high, 20)}}
	for _, thing := range things {
		switch x := thing.(type) {
		case api.ShelfMove:
			b.Moves = append(b.Moves, x)
		case api.ShelfDelivery:
			b.Deliveries = append(b.Deliveries, x)
		case api.ShelfCount:
			b.Counts = append(b.Counts, x)
		}
	}
	return b
}

// largest is a valid book with as many things as there can be, and the widest spans; it can be true.
func largest() api.ShelfBook {
	b := api.ShelfBook{Days: api.ShelfDays}
	for range api.ShelfShelves {
		b.Shelves = append(b.Shelves, room(0, api.ShelfRoom, api.ShelfRoom))
	}
	for i := range api.ShelfMoves {
		b.Moves = append(b.Moves, api.ShelfMove{Day: i, Shelf: 3, Back: i%2 == 1, By: span(0, api.ShelfRoom)})
	}
	for range api.ShelfDeliveries {
		b.Deliveries = append(b.Deliveries, delivery(3, 0, api.ShelfDays-1, 0, api.ShelfRoom))
	}
	for i := range api.ShelfCounts {
		b.Counts = append(b.Counts, count(i+4, 3, 25+i, api.ShelfErr))
	}
	return b
}

// clone copies a book wholly, and leaves free room behind each list, with what no valid book has.
func clone(b api.ShelfBook) api.ShelfBook {
	b.Shelves = sample.Roomy(b.Shelves, room(-1, -2, -1))
	b.Moves = sample.Roomy(b.Moves, slip(-1, -1, -1, -2))
	b.Deliveries = sample.Roomy(b.Deliveries, delivery(-1, -1, -2, -1, -2))
	b.Counts = sample.Roomy(b.Counts, count(-1, -1, -1, -1))
	return b
}

func withCount(b api.ShelfBook, counts ...api.ShelfCount) api.ShelfBook {
	b.Counts = append(slices.Clone(b.Counts), counts...)
	return b
}

func withoutCounts(b api.ShelfBook, counts ...int) api.ShelfBook {
	var left []api.ShelfCount
	for i, c := range b.Counts {
		if !slices.Contains(counts, i) {
			left = append(left, c)
		}
	}
	b.Counts = left
	return b
}

// eachEvening does something with each shelf and day of a book.
func eachEvening(b api.ShelfBook, do func(shelf, day int)) {
	for s := range b.Shelves {
		for day := range b.Days {
			do(s, day)
		}
	}
}

// size is how large random books are: at most so many things of each kind, so many pieces, and numbers in a span. One of so many counts is guessed.
type size struct {
	days, shelves, moves, deliveries, counts int
	room, by, err, numbers, guess            int
}

// Small enough for all truths to be gone through; a little larger; and as large as can be.
var (
	small  = size{days: 4, shelves: 2, moves: 4, deliveries: 2, counts: 4, room: 10, by: 5, err: 1, numbers: 3, guess: 8}
	middle = size{days: 6, shelves: 2, moves: 6, deliveries: 3, counts: 4, room: 20, by: 9, err: 3, numbers: 4, guess: 8}
	great  = size{days: api.ShelfDays, shelves: api.ShelfShelves, moves: api.ShelfMoves, deliveries: api.ShelfDeliveries, counts: api.ShelfCounts, room: api.ShelfRoom, by: 25, err: 6, numbers: 12, guess: 8}
)

// around returns a span of at most so many numbers that has n, and lies from low to high.
func around(d sample.Dice, n, many, low, high int) api.Span {
	behind := d(many)
	before := d(behind + 1)
	return span(max(low, n-before), min(high, n+behind-before))
}

// someBook returns some valid book, and something that truly happened. Mostly nothing of the book is false; a few of its counts can be, and rarely a slip or a return.
func (z size) someBook(d sample.Dice) (api.ShelfBook, truth) {
	b := api.ShelfBook{Days: 1 + d(z.days)}
	var begin, days []int
	for range 1 + d(z.shelves) {
		most := 1 + z.room/3 + d(z.room-z.room/3)
		begin = append(begin, d(most+1))
		b.Shelves = append(b.Shelves, api.ShelfShelf{Begin: around(d, begin[len(begin)-1], z.numbers, 0, most), Room: most})
	}
	for range d(z.deliveries + 1) {
		between := d.Span(0, b.Days-1)
		days = append(days, between.Low+d(between.High-between.Low+1))
		b.Deliveries = append(b.Deliveries, api.ShelfDelivery{Shelf: d(len(b.Shelves)), Days: between})
	}
	for range d(z.moves + 1) {
		b.Moves = append(b.Moves, api.ShelfMove{Day: d(b.Days), Shelf: d(len(b.Shelves)), Back: d(3) == 0})
	}
	brought, moved := z.live(d, b, begin, days)
	numbers := slices.Concat(begin, days, brought, moved)
	t, _ := happen(b, numbers)
	for range d(z.counts + 1) {
		c := count(d(b.Days), d(len(b.Shelves)), d(z.room+1), d(z.err+1))
		if d(z.guess) > 0 {
			c.Read = max(0, min(api.ShelfRoom, t.stocks[c.Shelf][c.Day]+d(2*c.Err+1)-c.Err))
		}
		b.Counts = append(b.Counts, c)
	}
	if len(b.Moves) > 0 && d(12) == 0 {
		b.Moves[d(len(b.Moves))].By = span(z.by, z.by+1)
	}
	t, _ = happen(b, numbers) // with its counts
	return b, t
}

// live lets happen what can be on the shelves of a book, and writes into it between what lies how many pieces the deliveries and moves are.
func (z size) live(d sample.Dice, b api.ShelfBook, begin, days []int) (brought, moved []int) {
	now := slices.Clone(begin)
	brought, moved = make([]int, len(b.Deliveries)), make([]int, len(b.Moves))
	for day := range b.Days {
		for i, x := range b.Deliveries {
			if days[i] == day {
				brought[i] = d(1 + min(z.by, b.Shelves[x.Shelf].Room-now[x.Shelf]))
				now[x.Shelf] += brought[i]
				b.Deliveries[i].By = around(d, brought[i], z.numbers-1, 0, api.ShelfRoom)
			}
		}
		for i, x := range b.Moves {
			switch {
			case x.Day == day && x.Back:
				moved[i] = d(1 + min(z.by, b.Shelves[x.Shelf].Room-now[x.Shelf]))
				now[x.Shelf] += moved[i]
			case x.Day == day:
				moved[i] = d(1 + min(z.by, now[x.Shelf]))
				now[x.Shelf] -= moved[i]
			}
			if x.Day == day {
				b.Moves[i].By = around(d, moved[i], z.numbers, 0, api.ShelfRoom)
			}
		}
	}
	return brought, moved
}

// eachBook does something with the example, and with many random books, always the same ones.
func (z size) eachBook(t *testing.T, many int, do func(d sample.Dice, b api.ShelfBook)) {
	t.Helper()
	rnd := rand.New(rand.NewSource(4))
	do(rnd.Intn, example())
	for range many {
		b, _ := z.someBook(rnd.Intn)
		if e := shelf.Check(b); e != api.OK {
			t.Fatalf("Check of the valid book %v: %d", b, e)
		}
		do(rnd.Intn, b)
	}
}
