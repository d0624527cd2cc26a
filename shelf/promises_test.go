package shelf_test

import (
	"math"
	"slices"
	"testing"

	"wishbook/api"
	"wishbook/shelf"
)

// question is what is asked about a book.
type question struct{ shelf, day, pieces, delivery, move int }

// answers are what all functions return of a book.
type answers struct {
	check       api.Errno
	was, taken  api.Span
	can         bool
	sure        int
	due, past   []int
	wrong, idle []int
	errnos      errnos
}

// errnos are the errors of all functions but Check.
type errnos struct{ was, can, sure, due, taken, past, wrong, idle api.Errno }

func askAll(b api.ShelfBook, q question) answers {
	var a answers
	a.check = shelf.Check(b)
	a.was, a.errnos.was = shelf.Was(b, q.shelf, q.day)
	a.can, a.errnos.can = shelf.Can(b, q.shelf, q.day, q.pieces)
	a.sure, a.errnos.sure = shelf.Sure(b, q.shelf, q.day)
	a.due, a.errnos.due = shelf.Due(b, q.delivery)
	a.taken, a.errnos.taken = shelf.Taken(b, q.move)
	a.past, a.errnos.past = shelf.Past(b, q.shelf, q.day, q.pieces)
	a.wrong, a.errnos.wrong = shelf.Wrong(b)
	a.idle, a.errnos.idle = shelf.Idle(b)
	return a
}

// areZero reports whether with each error the other result is zero.
func (a answers) areZero() bool {
	e := a.errnos
	return (e.was == api.OK || a.was == api.Span{}) && (e.can == api.OK || !a.can) && (e.sure == api.OK || a.sure == 0) &&
		(e.due == api.OK || len(a.due) == 0) && (e.taken == api.OK || a.taken == api.Span{}) && (e.past == api.OK || len(a.past) == 0) &&
		(e.wrong == api.OK || len(a.wrong) == 0) && (e.idle == api.OK || len(a.idle) == 0)
}

// change makes another book of the example.
type change struct {
	name string
	do   func(b *api.ShelfBook)
}

func changed(do func(b *api.ShelfBook)) api.ShelfBook {
	b := example()
	do(&b)
	return b
}

func shelves(list ...api.ShelfShelf) func(b *api.ShelfBook) {
	return func(b *api.ShelfBook) { b.Shelves = list }
}

func firstShelf(s api.ShelfShelf) func(b *api.ShelfBook) {
	return func(b *api.ShelfBook) { b.Shelves[0] = s }
}

func lastMove(m api.ShelfMove) func(b *api.ShelfBook) {
	return func(b *api.ShelfBook) { b.Moves[3] = m }
}

func deliveries(list ...api.ShelfDelivery) func(b *api.ShelfBook) {
	return func(b *api.ShelfBook) { b.Deliveries = list }
}

func lastCount(c api.ShelfCount) func(b *api.ShelfBook) {
	return func(b *api.ShelfBook) { b.Counts[1] = c }
}

func wrongBooks() []change {
	return append(wrongShelvesAndMoves(), wrongDeliveriesAndCounts()...)
}

func wrongShelvesAndMoves() []change {
	return []change{
		{"nothing", func(b *api.ShelfBook) { *b = api.ShelfBook{} }},
		{"no days", func(b *api.ShelfBook) { *b = api.ShelfBook{Shelves: b.Shelves} }},
		{"days below 0", func(b *api.ShelfBook) { *b = api.ShelfBook{Days: -1, Shelves: b.Shelves} }},
		{"13 days", func(b *api.ShelfBook) { b.Days = 13 }},
		{"a day less", func(b *api.ShelfBook) { b.Days = 3 }},
		{"no shelves", func(b *api.ShelfBook) { *b = api.ShelfBook{Days: 5} }},
		{"an empty list of shelves", func(b *api.ShelfBook) { *b = api.ShelfBook{Days: 5, Shelves: []api.ShelfShelf{}} }},
		{"5 shelves", shelves(room(10, 12, 30), room(5, 5, 10), room(0, 0, 1), room(0, 0, 1), room(0, 0, 1))},
		{"a shelf less", shelves(room(10, 12, 30))},
		{"no room", firstShelf(room(0, 0, 0))},
		{"room below 0", firstShelf(room(0, 0, -1))},
		{"room for 61", firstShelf(room(10, 12, 61))},
		{"fewer than 0 at first", firstShelf(room(-1, 12, 30))},
		{"more at first than have room", firstShelf(room(10, 31, 30))},
		{"all at first more than have room", firstShelf(room(31, 31, 30))},
		{"no span at first", firstShelf(room(12, 11, 30))},
		{"11 moves", func(b *api.ShelfBook) { *b = largest(); b.Moves = append(b.Moves, slip(0, 0, 0, 0)) }},
		{"a move on the day -1", lastMove(slip(-1, 1, 2, 2))},
		{"a move on the day behind the last one", lastMove(slip(5, 1, 2, 2))},
		{"a slip of the shelf -1", lastMove(slip(1, -1, 2, 2))},
		{"a return to a shelf too many", lastMove(back(1, 2, 2, 2))},
		{"a slip of less than 0", lastMove(slip(1, 1, -1, 2))},
		{"a return of 61", lastMove(back(1, 1, 2, 61))},
		{"no span of a slip", lastMove(slip(1, 1, 3, 2))},
	}
}

func wrongDeliveriesAndCounts() []change {
	one := delivery(0, 1, 3, 10, 10)
	return []change{
		{"4 deliveries", deliveries(one, one, one, one)},
		{"a delivery to the shelf -1", deliveries(delivery(-1, 1, 3, 10, 10))},
		{"a delivery to a shelf too many", deliveries(one, delivery(2, 1, 3, 10, 10))},
		{"a delivery from the day -1 on", deliveries(delivery(0, -1, 3, 10, 10))},
		{"a delivery until the day behind the last one", deliveries(delivery(0, 1, 5, 10, 10))},
		{"no span of days", deliveries(delivery(0, 3, 2, 10, 10))},
		{"a delivery of less than 0", deliveries(delivery(0, 1, 3, -1, 10))},
		{"a delivery of 61", deliveries(one, one, delivery(0, 1, 3, 10, 61))},
		{"no span of a delivery", deliveries(delivery(0, 1, 3, 10, 9))},
		{"9 counts", func(b *api.ShelfBook) { *b = largest(); b.Counts = append(b.Counts, count(0, 0, 0, 0)) }},
		{"a count on the day -1", lastCount(count(-1, 1, 3, 0))},
		{"a count on the day behind the last one", lastCount(count(5, 1, 3, 0))},
		{"a count of the shelf -1", lastCount(count(1, -1, 3, 0))},
		{"a count of a shelf too many", lastCount(count(1, 2, 3, 0))},
		{"a count of -1", lastCount(count(1, 1, -1, 5))},
		{"a count of 61", lastCount(count(1, 1, 61, 20))},
		{"a count wrong by -1", lastCount(count(1, 1, 3, -1))},
		{"a count wrong by 21", lastCount(count(1, 1, 3, 21))},
	}
}

func rightBooks() []change {
	return []change{
		{"the example", func(b *api.ShelfBook) {}},
		{"the largest", func(b *api.ShelfBook) { *b = largest() }},
		{"one day", func(b *api.ShelfBook) { *b = api.ShelfBook{Days: 1, Shelves: b.Shelves} }},
		{"12 days", func(b *api.ShelfBook) { b.Days = 12 }},
		{"empty lists", func(b *api.ShelfBook) {
			b.Moves, b.Deliveries, b.Counts = []api.ShelfMove{}, []api.ShelfDelivery{}, []api.ShelfCount{}
		}},
		{"4 shelves", shelves(room(10, 12, 30), room(5, 5, 10), room(0, 0, 1), room(0, 0, 1))},
		{"room for 1", func(b *api.ShelfBook) {
			*b = api.ShelfBook{Days: 5, Shelves: []api.ShelfShelf{room(0, 1, 1)}}
		}},
		{"room for 60", firstShelf(room(0, 60, 60))},
		{"as many at first as have room", firstShelf(room(0, 30, 30))},
		{"a move on the first day", lastMove(slip(0, 1, 2, 2))},
		{"a move on the last day", lastMove(slip(4, 1, 2, 2))},
		{"a slip of nothing", lastMove(slip(1, 1, 0, 0))},
		{"a slip of up to 60", lastMove(slip(1, 1, 0, 60))},
		{"a delivery on any day", deliveries(delivery(0, 0, 4, 10, 10))},
		{"a delivery of nothing", deliveries(delivery(0, 1, 3, 0, 0))},
		{"a delivery of up to 60", deliveries(delivery(0, 1, 3, 0, 60))},
		{"a count on the first day, of nothing", lastCount(count(0, 1, 0, 20))},
		{"a count on the last day", lastCount(count(4, 1, 3, 0))},
		{"a count of 60", lastCount(count(4, 1, 60, 20))},
	}
}

// P4.1: which books are valid, and that this error is the first one.
func TestP4_1Check(t *testing.T) {
	all := errnos{api.ErrShelf, api.ErrShelf, api.ErrShelf, api.ErrShelf, api.ErrShelf, api.ErrShelf, api.ErrShelf, api.ErrShelf}
	for _, c := range wrongBooks() {
		b := changed(c.do)
		for _, q := range []question{{}, {-1, -1, -1, -1, -1}} {
			if a := askAll(b, q); a.check != api.ErrShelf || a.errnos != all || !a.areZero() {
				t.Errorf("%s: %v", c.name, a)
			}
		}
	}
	for _, c := range rightBooks() {
		b := changed(c.do)
		a := askAll(b, question{-1, 0, 0, len(b.Deliveries), -1})
		ask := errnos{api.ErrShelfAsk, api.ErrShelfAsk, api.ErrShelfAsk, api.ErrShelfAsk, api.ErrShelfAsk, api.ErrShelfAsk, a.errnos.wrong, a.errnos.idle}
		if a.check != api.OK || a.errnos != ask || !a.areZero() || a.errnos.wrong == api.ErrShelf || a.errnos.idle == api.ErrShelf {
			t.Errorf("%s: %v", c.name, a)
		}
	}
}

// P4.1: which shelves and days can be asked about, also if the book cannot be true.
func TestP4_1Ask(t *testing.T) {
	contrary := withCount(example(), count(1, 1, 4, 0))
	for _, x := range []struct {
		b          api.ShelfBook
		shelf, day int
		want       api.Errno
	}{
		{example(), 0, 0, api.OK}, {example(), 1, 4, api.OK}, {largest(), 3, 11, api.OK},
		{example(), -1, 0, api.ErrShelfAsk}, {example(), 2, 0, api.ErrShelfAsk}, {example(), 0, -1, api.ErrShelfAsk}, {example(), 0, 5, api.ErrShelfAsk},
		{largest(), 4, 0, api.ErrShelfAsk}, {largest(), 0, 12, api.ErrShelfAsk},
		{contrary, 0, 0, api.ErrShelfFalse}, {contrary, 1, 4, api.ErrShelfFalse},
		{contrary, -1, 0, api.ErrShelfAsk}, {contrary, 2, 0, api.ErrShelfAsk}, {contrary, 0, -1, api.ErrShelfAsk}, {contrary, 0, 5, api.ErrShelfAsk},
	} {
		a := askAll(x.b, question{shelf: x.shelf, day: x.day, pieces: -1})
		past := x.want
		if past == api.OK {
			past = api.ErrNone
		}
		if e := a.errnos; e.was != x.want || e.can != x.want || e.sure != x.want || e.past != past || !a.areZero() {
			t.Errorf("of the shelf %d on the day %d: %v, not %d", x.shelf, x.day, a, x.want)
		}
	}
}

// claim is a book, and whether it can be true.
type claim struct {
	name string
	b    api.ShelfBook
	want bool
}

// claims are books of one shelf.
func claims() []claim {
	return []claim{
		{"nothing happens", plainShelf(5, 5), true},
		{"a slip of all", plainShelf(5, 5, slip(0, 0, 5, 5)), true},
		{"a slip of more than all", plainShelf(5, 5, slip(2, 0, 6, 6)), false},
		{"a slip that can be of all", plainShelf(5, 5, slip(2, 0, 5, 60)), true},
		{"a return up to the room", plainShelf(5, 5, back(1, 0, 15, 15)), true},
		{"a return above the room", plainShelf(5, 5, back(1, 0, 16, 16)), false},
		{"a return that can be up to the room", plainShelf(5, 5, back(1, 0, 15, 60)), true},
		{"a delivery above the room", plainShelf(5, 5, delivery(0, 0, 2, 16, 16)), false},
		{"a delivery, and room behind it", plainShelf(5, 5, delivery(0, 0, 0, 16, 16), slip(0, 0, 5, 5)), false},
		{"a delivery, and room before it", plainShelf(5, 5, delivery(0, 0, 1, 16, 16), slip(0, 0, 5, 5)), true},
		{"a delivery before the slips of its day", plainShelf(0, 0, delivery(0, 1, 1, 5, 5), slip(1, 0, 5, 5)), true},
		{"a delivery behind the slips of an earlier day", plainShelf(0, 0, delivery(0, 1, 1, 5, 5), slip(0, 0, 5, 5)), false},
		{"a delivery that can come early", plainShelf(0, 0, delivery(0, 0, 2, 5, 5), slip(0, 0, 5, 5)), true},
		{"deliveries of a day above the room", plainShelf(0, 0, delivery(0, 0, 0, 15, 15), delivery(0, 0, 0, 6, 6)), false},
		{"deliveries with a slip between", plainShelf(0, 0, delivery(0, 0, 1, 15, 15), delivery(0, 0, 1, 6, 6), slip(0, 0, 1, 1)), true},
		{"a return before a slip", plainShelf(0, 0, back(1, 0, 5, 5), slip(1, 0, 5, 5)), true},
		{"a return behind a slip", plainShelf(0, 0, slip(1, 0, 5, 5), back(1, 0, 5, 5)), false},
		{"a slip before a return", plainShelf(20, 20, slip(1, 0, 5, 5), back(1, 0, 5, 5)), true},
		{"a slip behind a return", plainShelf(20, 20, back(1, 0, 5, 5), slip(1, 0, 5, 5)), false},
		{"an earlier day with a greater number", plainShelf(0, 0, slip(1, 0, 5, 5), back(0, 0, 5, 5)), true},
		{"a count as it is", plainShelf(5, 5, count(0, 0, 5, 0)), true},
		{"a count of one more", plainShelf(5, 5, count(0, 0, 6, 0)), false},
		{"a count of one less", plainShelf(5, 5, count(0, 0, 4, 0)), false},
		{"a count wrong by as much as can be", plainShelf(5, 5, count(0, 0, 8, 3), count(0, 0, 2, 3)), true},
		{"a count of too much", plainShelf(5, 5, count(0, 0, 9, 3)), false},
		{"a count of too little", plainShelf(5, 5, count(0, 0, 1, 3)), false},
		{"a count behind the slips of its day", plainShelf(5, 5, count(1, 0, 3, 0), slip(1, 0, 2, 2)), true},
		{"a count before the slips of the next day", plainShelf(5, 5, count(0, 0, 5, 0), slip(1, 0, 2, 2), count(1, 0, 3, 0)), true},
		{"counts above the room", plainShelf(20, 20, count(0, 0, 40, 20), count(0, 0, 21, 1)), true},
		{"a count of more than have room", plainShelf(20, 20, count(0, 0, 22, 1)), false},
		{"counts of a day that agree in one number", plainShelf(0, 20, count(0, 0, 5, 3), count(0, 0, 10, 2)), true},
		{"counts of a day that agree in none", plainShelf(0, 20, count(0, 0, 5, 3), count(0, 0, 11, 2)), false},
		{"counts of days that a slip joins", plainShelf(0, 20, count(0, 0, 15, 1), slip(1, 0, 2, 4), count(1, 0, 9, 1)), true},
		{"counts of days that no slip joins", plainShelf(0, 20, count(0, 0, 15, 1), slip(1, 0, 2, 4), count(1, 0, 8, 1)), false},
		{"a delivery that must have come", plainShelf(0, 0, delivery(0, 0, 1, 5, 5), count(2, 0, 0, 0)), false},
		{"a delivery that has not come", plainShelf(0, 0, delivery(0, 0, 2, 5, 5), count(1, 0, 0, 0)), true},
	}
}

// P4.1: which books can be true, and that a book is false as a whole.
func TestP4_1False(t *testing.T) {
	for _, x := range claims() {
		want := api.OK
		if !x.want {
			want = api.ErrShelfFalse
		}
		b := x.b
		b.Shelves = append(b.Shelves, room(0, 0, 1))
		if e := shelf.Check(b); e != api.OK {
			t.Errorf("%s: Check: %d", x.name, e)
		}
		for s := range b.Shelves {
			a := askAll(b, question{shelf: s})
			e := a.errnos
			if e.was != want || e.can != want || e.sure != want || e.idle != want || !a.areZero() {
				t.Errorf("%s: %v, not %d", x.name, a, want)
			}
			if len(b.Deliveries) > 0 && e.due != want || len(b.Deliveries) == 0 && e.due != api.ErrShelfAsk {
				t.Errorf("%s: Due: %d", x.name, e.due)
			}
			if len(b.Moves) > 0 && e.taken != want || len(b.Moves) == 0 && e.taken != api.ErrShelfAsk {
				t.Errorf("%s: Taken: %d", x.name, e.taken)
			}
			if !x.want && (e.past != want || e.wrong == api.OK && len(a.wrong) == 0) || x.want && (e.wrong != api.OK || len(a.wrong) > 0) {
				t.Errorf("%s: Past, Wrong: %v", x.name, a)
			}
		}
	}
}

// P4.2: the least and the greatest stock, and what surely is there.
func TestP4_2WasAndSure(t *testing.T) {
	for _, x := range []struct {
		name       string
		b          api.ShelfBook
		shelf, day int
		was        api.Span
		sure       int
	}{
		{"the shelf 0 on the day 0", example(), 0, 0, span(6, 9), 6},
		{"the shelf 0 on the day 1", example(), 0, 1, span(6, 19), 6},
		{"the shelf 0 on the day 2", example(), 0, 2, span(10, 14), 10},
		{"the shelf 0 on the day 3", example(), 0, 3, span(10, 16), 10},
		{"the shelf 0 on the day 4", example(), 0, 4, span(10, 16), 10},
		{"the shelf 1 on the day 0", example(), 1, 0, span(5, 5), 3},
		{"the shelf 1 on the day 1", example(), 1, 1, span(3, 3), 3},
		{"the shelf 1 on the day 4", example(), 1, 4, span(3, 3), 3},
		{"a day before the delivery", plainShelf(5, 5, delivery(0, 1, 1, 4, 6)), 0, 0, span(5, 5), 5},
		{"the day of the delivery", plainShelf(5, 5, delivery(0, 1, 1, 4, 6)), 0, 1, span(9, 11), 9},
		{"less on a later day", plainShelf(5, 5, slip(1, 0, 1, 3), back(2, 0, 4, 4)), 0, 0, span(5, 5), 2},
		{"less on this day", plainShelf(5, 5, slip(1, 0, 1, 3), back(2, 0, 4, 4)), 0, 1, span(2, 4), 2},
		{"less on an earlier day", plainShelf(5, 5, slip(1, 0, 1, 3), back(2, 0, 4, 4)), 0, 2, span(6, 8), 6},
		{"as many as have room", plainShelf(15, 20, back(0, 0, 0, 3)), 0, 0, span(15, 20), 15},
		{"what later slips leave", plainShelf(0, 9, slip(2, 0, 4, 5)), 0, 0, span(4, 9), 0},
		{"what later returns leave room for", plainShelf(10, 20, back(2, 0, 4, 5)), 0, 0, span(10, 16), 10},
		{"what a later count tells", plainShelf(0, 20, slip(1, 0, 4, 5), count(2, 0, 7, 1)), 0, 0, span(10, 13), 6},
		{"what an earlier count tells", plainShelf(0, 20, slip(1, 0, 4, 5), count(0, 0, 11, 1)), 0, 2, span(5, 8), 5},
		{"a slip of nothing", plainShelf(3, 4, slip(1, 0, 0, 0)), 0, 2, span(3, 4), 3},
		{"nothing known", largest(), 3, 11, span(12, 52), 12},
		{"nothing at all known", largest(), 0, 11, span(0, 60), 0},
	} {
		if got, e := shelf.Was(x.b, x.shelf, x.day); got != x.was || e != api.OK {
			t.Errorf("%s: Was: %v, %d, not %v", x.name, got, e, x.was)
		}
		if got, e := shelf.Sure(x.b, x.shelf, x.day); got != x.sure || e != api.OK {
			t.Errorf("%s: Sure: %v, %d, not %v", x.name, got, e, x.sure)
		}
	}
}

// P4.2: which numbers of pieces can be there; not all of those in between.
func TestP4_2Can(t *testing.T) {
	two := plainShelf(1, 1, delivery(0, 0, 2, 5, 5), delivery(0, 1, 2, 9, 9))
	for _, x := range []struct {
		name       string
		b          api.ShelfBook
		shelf, day int
		want       []int
	}{
		{"the shelf 0 on the day 0", example(), 0, 0, list(6, 7, 8, 9)},
		{"the shelf 0 on the day 1", example(), 0, 1, list(6, 7, 8, 9, 16, 17, 18, 19)},
		{"the shelf 0 on the day 2", example(), 0, 2, list(10, 11, 12, 13, 14)},
		{"the shelf 1 on the day 2", example(), 1, 2, list(3)},
		{"two deliveries on the day 0", two, 0, 0, list(1, 6)},
		{"two deliveries on the day 1", two, 0, 1, list(1, 6, 10, 15)},
		{"two deliveries on the last day", two, 0, 2, list(15)},
		{"just one of two deliveries", withCount(two, count(1, 0, 8, 2)), 0, 1, list(6, 10)},
		{"nothing, and as many as have room", plainShelf(0, 0, delivery(0, 0, 1, 20, 20)), 0, 0, list(0, 20)},
	} {
		var got []int
		for pieces := -1; pieces <= api.ShelfRoom+1; pieces++ {
			can, e := shelf.Can(x.b, x.shelf, x.day, pieces)
			if e != api.OK {
				t.Errorf("%s: Can %d: %d", x.name, pieces, e)
			}
			if can {
				got = append(got, pieces)
			}
		}
		if !slices.Equal(got, x.want) {
			t.Errorf("%s: %v, not %v", x.name, got, x.want)
		}
	}
	for _, pieces := range extremes {
		if can, e := shelf.Can(example(), 0, 0, pieces); can || e != api.OK {
			t.Errorf("Can %d: %v, %d", pieces, can, e)
		}
	}
}

// P4.3: on which days a delivery can have come.
func TestP4_3Due(t *testing.T) {
	three := example()
	three.Counts[0] = count(2, 0, 3, 1)
	twins := plainShelf(1, 1, delivery(0, 0, 2, 5, 5), delivery(0, 0, 2, 5, 5), count(0, 0, 6, 0), count(1, 0, 6, 0))
	for _, x := range []struct {
		name     string
		b        api.ShelfBook
		delivery int
		want     []int
		e        api.Errno
	}{
		{"the example", example(), 0, list(1, 2), api.OK},
		{"it came later", three, 0, list(3), api.OK},
		{"not counted", withoutCounts(example(), 0), 0, list(1, 2, 3), api.OK},
		{"the delivery -1", example(), -1, nil, api.ErrShelfAsk},
		{"a delivery too many", example(), 1, nil, api.ErrShelfAsk},
		{"no deliveries", plainShelf(1, 1), 0, nil, api.ErrShelfAsk},
		{"a false book", withCount(example(), count(1, 1, 4, 0)), 0, nil, api.ErrShelfFalse},
		{"a false book, and a delivery too many", withCount(example(), count(1, 1, 4, 0)), 1, nil, api.ErrShelfAsk},
		{"not on a day between", twins, 0, list(0, 2), api.OK},
		{"not on a day between, the other one", twins, 1, list(0, 2), api.OK},
		{"one day", plainShelf(1, 1, delivery(0, 2, 2, 5, 5)), 0, list(2), api.OK},
		{"nothing that comes", plainShelf(1, 1, delivery(0, 0, 2, 0, 0), count(1, 0, 1, 0)), 0, list(0, 1, 2), api.OK},
		{"a slip that needs it", plainShelf(1, 1, delivery(0, 0, 2, 5, 5), slip(1, 0, 2, 2)), 0, list(0, 1), api.OK},
		{"room that it needs", plainShelf(18, 18, delivery(0, 0, 2, 5, 5), slip(1, 0, 3, 3)), 0, list(2), api.OK},
		{"room that another one needs", plainShelf(0, 0, delivery(0, 0, 1, 15, 15), delivery(0, 0, 2, 10, 10), slip(1, 0, 5, 5)), 1, list(2), api.OK},
	} {
		if got, e := shelf.Due(x.b, x.delivery); !slices.Equal(got, x.want) || e != x.e {
			t.Errorf("%s: %v, %d, not %v, %d", x.name, got, e, x.want, x.e)
		}
	}
}

// P4.3: how many pieces a move can have been.
func TestP4_3Taken(t *testing.T) {
	for _, x := range []struct {
		name string
		b    api.ShelfBook
		move int
		want api.Span
		e    api.Errno
	}{
		{"the slip 0", example(), 0, span(3, 4), api.OK},
		{"the slip 1", example(), 1, span(5, 8), api.OK},
		{"the return", example(), 2, span(0, 2), api.OK},
		{"the slip of the shelf 1", example(), 3, span(2, 2), api.OK},
		{"the move -1", example(), -1, api.Span{}, api.ErrShelfAsk},
		{"a move too many", example(), 4, api.Span{}, api.ErrShelfAsk},
		{"no moves", plainShelf(1, 1), 0, api.Span{}, api.ErrShelfAsk},
		{"a false book", withCount(example(), count(1, 1, 4, 0)), 0, api.Span{}, api.ErrShelfFalse},
		{"a false book, and a move too many", withCount(example(), count(1, 1, 4, 0)), 4, api.Span{}, api.ErrShelfAsk},
		{"a count that says it all", withCount(example(), count(0, 0, 9, 0)), 0, span(3, 3), api.OK},
		{"a count that leaves both", withCount(example(), count(0, 0, 8, 0)), 0, span(3, 4), api.OK},
		{"no more than was there", plainShelf(3, 5, slip(1, 0, 2, 60)), 0, span(2, 5), api.OK},
		{"no more than has room", plainShelf(13, 15, back(1, 0, 2, 60)), 0, span(2, 7), api.OK},
		{"what a count tells", plainShelf(3, 5, slip(1, 0, 0, 5), count(2, 0, 2, 0)), 0, span(1, 3), api.OK},
		{"at least as many as make room", plainShelf(15, 16, slip(0, 0, 0, 9), delivery(0, 1, 1, 10, 10)), 0, span(5, 9), api.OK},
		{"what one delivery leaves, or both", plainShelf(0, 0, delivery(0, 0, 2, 5, 5), delivery(0, 0, 2, 9, 9), slip(0, 0, 0, 20), count(0, 0, 1, 0), count(1, 0, 1, 0)), 0, span(4, 13), api.OK},
	} {
		if got, e := shelf.Taken(x.b, x.move); got != x.want || e != x.e {
			t.Errorf("%s: %v, %d, not %v, %d", x.name, got, e, x.want, x.e)
		}
	}
}

// P4.4: what was there on all days, if there is one answer.
func TestP4_4Past(t *testing.T) {
	for _, x := range []struct {
		name               string
		b                  api.ShelfBook
		shelf, day, pieces int
		want               []int
		e                  api.Errno
	}{
		{"the shelf 1", example(), 1, 4, 3, list(5, 3, 3, 3, 3), api.OK},
		{"a delivery that had come", withCount(example(), count(4, 0, 10, 0)), 0, 1, 18, list(8, 18, 10, 10, 10), api.OK},
		{"pieces that were never there", example(), 0, 1, 12, nil, api.ErrNone},
		{"pieces that were there on another day", example(), 0, 0, 10, nil, api.ErrNone},
		{"less than can be", example(), 0, 0, 5, nil, api.ErrNone},
		{"fewer than 0", example(), 0, 0, -1, nil, api.ErrNone},
		{"more than on any shelf", example(), 0, 0, 61, nil, api.ErrNone},
		{"the shelf -1", example(), -1, 0, 8, nil, api.ErrShelfAsk},
		{"the day 5", example(), 0, 5, 8, nil, api.ErrShelfAsk},
		{"a false book", withCount(example(), count(1, 1, 4, 0)), 0, 0, 8, nil, api.ErrShelfFalse},
		{"a false book, and fewer than 0", withCount(example(), count(1, 1, 4, 0)), 0, 0, -1, nil, api.ErrShelfFalse},
		{"one day", api.ShelfBook{Days: 1, Shelves: []api.ShelfShelf{room(0, 9, 9)}}, 0, 0, 7, list(7), api.OK},
		{"an earlier delivery", plainShelf(1, 1, delivery(0, 0, 2, 5, 5)), 0, 0, 6, list(6, 6, 6), api.OK},
		{"a later delivery", plainShelf(1, 1, delivery(0, 0, 2, 5, 5)), 0, 1, 1, list(1, 1, 6), api.OK},
	} {
		if got, e := shelf.Past(x.b, x.shelf, x.day, x.pieces); !slices.Equal(got, x.want) || e != x.e {
			t.Errorf("%s: %v, %d, not %v, %d", x.name, got, e, x.want, x.e)
		}
	}
	for _, pieces := range extremes {
		if got, e := shelf.Past(example(), 0, 0, pieces); len(got) > 0 || e != api.ErrNone {
			t.Errorf("Past %d: %v, %d", pieces, got, e)
		}
	}
}

// P4.5: the fewest counts that must be false, the first list of them.
func TestP4_5Wrong(t *testing.T) {
	for _, x := range []struct {
		name string
		b    api.ShelfBook
		want []int
		e    api.Errno
	}{
		{"the example", example(), nil, api.OK},
		{"a count too high", withCount(example(), count(3, 0, 30, 1)), list(2), api.OK},
		{"a count of another number than before", withCount(example(), count(1, 1, 4, 0)), list(2), api.OK},
		{"two counts that do not go with the first one", withCount(example(), count(0, 0, 12, 2), count(4, 0, 20, 1)), list(2, 3), api.OK},
		{"no counts", withoutCounts(example(), 0, 1), nil, api.OK},
		{"never true", plainShelf(3, 3, slip(1, 0, 5, 5)), nil, api.ErrNone},
		{"never true, whatever is counted", plainShelf(3, 3, slip(1, 0, 5, 5), count(0, 0, 3, 0), count(2, 0, 9, 0)), nil, api.ErrNone},
		{"either of two counts", plainShelf(0, 20, count(0, 0, 5, 0), count(1, 0, 6, 0)), list(0), api.OK},
		{"one count against two", plainShelf(0, 20, count(0, 0, 5, 0), count(1, 0, 6, 0), count(2, 0, 5, 0)), list(1), api.OK},
		{"the first count against two", plainShelf(0, 20, count(0, 0, 6, 0), count(1, 0, 5, 0), count(2, 0, 5, 0)), list(0), api.OK},
		{"the last count against two", plainShelf(0, 20, count(0, 0, 5, 0), count(1, 0, 5, 0), count(2, 0, 6, 0)), list(2), api.OK},
		{"two counts against two", plainShelf(0, 20, count(0, 0, 6, 0), count(1, 0, 5, 0), count(2, 0, 6, 0), count(2, 0, 5, 0)), list(0, 2), api.OK},
		{"the first list, not the latest one", plainShelf(0, 20, count(0, 0, 5, 0), count(1, 0, 6, 0), count(1, 0, 7, 0), count(2, 0, 5, 0), count(2, 0, 7, 0)), list(0, 1, 3), api.OK},
		{"a count in the middle goes with either side", plainShelf(0, 20, count(0, 0, 4, 1), count(1, 0, 6, 1), count(2, 0, 8, 1)), list(0), api.OK},
		{"above the room", plainShelf(0, 20, count(0, 0, 5, 0), count(1, 0, 30, 5), count(2, 0, 5, 0)), list(1), api.OK},
		{"all of them", plainShelf(5, 5, count(0, 0, 6, 0), count(1, 0, 7, 0), count(2, 0, 4, 0)), list(0, 1, 2), api.OK},
	} {
		if got, e := shelf.Wrong(x.b); !slices.Equal(got, x.want) || e != x.e {
			t.Errorf("%s: %v, %d, not %v, %d", x.name, got, e, x.want, x.e)
		}
	}
}

// P4.5: of several shelves all counts that must be false, and of all 8 counts.
func TestP4_5Shelves(t *testing.T) {
	b := example()
	b.Counts = []api.ShelfCount{count(1, 1, 2, 0), count(0, 0, 20, 5), count(1, 1, 3, 0), count(2, 0, 12, 2), count(4, 1, 9, 5), count(4, 0, 1, 3), count(0, 0, 5, 0), count(3, 1, 0, 2)}
	if got, e := shelf.Wrong(b); !slices.Equal(got, list(0, 1, 4, 5, 6, 7)) || e != api.OK {
		t.Errorf("Wrong: %v, %d", got, e)
	}
	b.Moves[3] = slip(1, 1, 6, 9)
	if got, e := shelf.Wrong(b); len(got) > 0 || e != api.ErrNone {
		t.Errorf("Wrong of a shelf that can never be true: %v, %d", got, e)
	}
}

// P4.6: the counts without each of which the same could be.
func TestP4_6Idle(t *testing.T) {
	for _, x := range []struct {
		name string
		b    api.ShelfBook
		want []int
		e    api.Errno
	}{
		{"the example", example(), list(1), api.OK},
		{"no counts", withoutCounts(example(), 0, 1), nil, api.OK},
		{"a false book", withCount(example(), count(1, 1, 4, 0)), nil, api.ErrShelfFalse},
		{"never true", plainShelf(3, 3, slip(1, 0, 5, 5)), nil, api.ErrShelfFalse},
		{"each of two equal ones", withCount(example(), count(2, 0, 12, 2)), list(0, 1, 2), api.OK},
		{"a wider one", withCount(example(), count(2, 0, 12, 3)), list(1, 2), api.OK},
		{"just what can be", plainShelf(4, 6, count(0, 0, 5, 1)), list(0), api.OK},
		{"a little less than can be", plainShelf(4, 7, count(0, 0, 5, 1)), nil, api.OK},
		{"ones that reach both numbers that can be", plainShelf(1, 1, delivery(0, 0, 2, 5, 5), count(1, 0, 6, 5), count(0, 0, 5, 4)), list(0, 1), api.OK},
		{"one that tells how little a slip took", plainShelf(4, 7, slip(1, 0, 0, 2), count(1, 0, 6, 1)), nil, api.OK},
		{"one that tells what a later one does, too", plainShelf(4, 7, slip(1, 0, 2, 2), count(0, 0, 5, 1), count(1, 0, 3, 1)), list(0, 1), api.OK},
		{"one that goes without saying above the room", plainShelf(10, 20, back(1, 0, 5, 5), count(0, 0, 5, 10)), list(0), api.OK},
		{"one that a later slip leaves nothing to", plainShelf(0, 5, slip(1, 0, 4, 4), count(0, 0, 5, 1)), list(0), api.OK},
	} {
		if got, e := shelf.Idle(x.b); !slices.Equal(got, x.want) || e != x.e {
			t.Errorf("%s: %v, %d, not %v, %d", x.name, got, e, x.want, x.e)
		}
	}
}

// P1: whatever the arguments are, each function returns, and with an error all else is zero.
func TestP1_AllArguments(t *testing.T) {
	books := []api.ShelfBook{{}, example(), largest(), plainShelf(3, 3, slip(1, 0, 5, 5))}
	for _, n := range extremes {
		for _, m := range extremes {
			for _, do := range []func(b *api.ShelfBook){
				func(b *api.ShelfBook) { b.Days = n },
				firstShelf(room(n, m, 30)), firstShelf(room(0, n, m)),
				lastMove(slip(n, m, 2, 2)), lastMove(back(1, 1, n, m)),
				deliveries(delivery(n, 1, m, 10, 10)), deliveries(delivery(0, n, m, 1, 1)), deliveries(delivery(0, 1, 3, n, m)),
				lastCount(count(n, m, 3, 0)), lastCount(count(1, 1, n, m)),
			} {
				books = append(books, changed(do))
			}
		}
	}
	for _, b := range books {
		for _, n := range extremes {
			for _, q := range []question{{n, 0, 8, 0, 0}, {0, n, 8, n, n}, {1, 1, n, 0, 0}, {n, n, n, n, n}} {
				a := askAll(b, q)
				if !a.areZero() || a.check == api.ErrShelf && a.errnos.past != api.ErrShelf {
					t.Errorf("of %v, %v: %v", b, q, a)
				}
			}
		}
	}
	if a := askAll(largest(), question{3, math.MaxInt, 0, 2, 9}); a.errnos.was != api.ErrShelfAsk || len(a.due) != 12 || a.taken != span(0, 41) {
		t.Errorf("of the largest: %v", a)
	}
}
