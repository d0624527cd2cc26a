package lack_test

import (
	"slices"
	"testing"

	"wishbook/api"
	"wishbook/lack"
)

// question is what is asked about a book.
type question struct {
	good, day, line, delivery int
	came                      []api.LackCame
}

// answers are what all functions return of a book.
type answers struct {
	check                                api.Errno
	surely, come, last, late             int
	shares                               []api.LackShare
	left, listed, refused, whole, broken []int
	errnos                               errnos
}

// errnos are the errors of all functions but Check.
type errnos struct{ surely, shares, left, missing, whole, come, last, late, broken api.Errno }

func askAll(b api.LackBook, q question) answers {
	var a answers
	a.check = lack.Check(b)
	a.surely, a.errnos.surely = lack.Surely(b, q.good, q.day)
	a.shares, a.errnos.shares = lack.Shares(b)
	a.left, a.errnos.left = lack.Left(b)
	a.listed, a.refused, a.errnos.missing = lack.Missing(b)
	a.whole, a.errnos.whole = lack.Whole(b)
	a.come, a.errnos.come = lack.Come(b, q.line, q.came)
	a.last, a.errnos.last = lack.Last(b, q.line)
	a.late, a.errnos.late = lack.Late(b, q.delivery)
	a.broken, a.errnos.broken = lack.Broken(b, q.delivery)
	return a
}

// areZero reports whether with each error the other results are zero.
func (a answers) areZero() bool {
	e := a.errnos
	return (e.surely == api.OK || a.surely == 0) && (e.shares == api.OK || len(a.shares) == 0) && (e.left == api.OK || len(a.left) == 0) &&
		(e.missing == api.OK || len(a.listed)+len(a.refused) == 0) && (e.whole == api.OK || len(a.whole) == 0) && (e.come == api.OK || a.come == 0) &&
		(e.last == api.OK || a.last == 0) && (e.late == api.OK || a.late == 0) && (e.broken == api.OK || len(a.broken) == 0)
}

// change makes another book of the example.
type change struct {
	name string
	do   func(b *api.LackBook)
}

func changed(do func(b *api.LackBook)) api.LackBook {
	b := example()
	do(&b)
	return b
}

func stock(numbers ...int) func(b *api.LackBook) {
	return func(b *api.LackBook) { b.Stock = numbers }
}

func ordered(i int, l api.LackLine) func(b *api.LackBook) {
	return func(b *api.LackBook) { b.Lines[i] = l }
}

func supplied(i int, d api.LackDelivery) func(b *api.LackBook) {
	return func(b *api.LackBook) { b.Deliveries[i] = d }
}

func wrongBooks() []change {
	return []change{
		{"nothing", func(b *api.LackBook) { *b = api.LackBook{} }},
		{"no goods", stock()},
		{"6 goods", stock(5, 2, 0, 0, 0, 0)},
		{"-1 pieces in stock", stock(5, 2, -1)},
		{"51 pieces in stock", stock(51, 2, 0)},
		{"no lines", func(b *api.LackBook) { b.Lines = nil }},
		{"11 lines", func(b *api.LackBook) { b.Lines = slices.Repeat(b.Lines[:1], 11) }},
		{"the order -1", ordered(0, line(-1, 0, 3, 10, -1))},
		{"the order 10", ordered(4, line(10, 0, 2, 40, -1))},
		{"a line of the good -1", ordered(0, line(0, -1, 3, 10, -1))},
		{"a line of the good 3", ordered(4, line(2, 3, 2, 40, -1))},
		{"a line of no pieces", ordered(0, line(0, 0, 0, 10, -1))},
		{"a line of 21 pieces", ordered(4, line(2, 0, 21, 40, -1))},
		{"a line until the day -1", ordered(0, line(0, 0, 3, -1, -1))},
		{"a line until the day 101", ordered(4, line(2, 0, 2, 101, -1))},
		{"the good -2 instead", ordered(0, line(0, 0, 3, 10, -2))},
		{"the good 3 instead", ordered(4, line(2, 0, 2, 40, 3))},
		{"the same good instead", ordered(1, line(0, 1, 4, 20, 1))},
		{"the same good instead, the first one", ordered(0, line(0, 0, 3, 10, 0))},
		{"a good fewer than lines are of", stock(5, 2)},
		{"7 deliveries", func(b *api.LackBook) { b.Deliveries = slices.Repeat(b.Deliveries[:1], 7) }},
		{"a delivery of the good -1", supplied(0, delivery(-1, 5, 12, 4, 6))},
		{"a delivery of the good 3", supplied(2, delivery(3, 30, 35, 1, 1))},
		{"a delivery from the day 0 on", supplied(0, delivery(2, 0, 12, 4, 6))},
		{"a delivery up to the day 101", supplied(2, delivery(0, 30, 101, 1, 1))},
		{"a delivery on no day", supplied(1, delivery(2, 28, 27, 3, 9))},
		{"a delivery of -1 pieces", supplied(0, delivery(2, 5, 12, -1, 6))},
		{"a delivery of 51 pieces", supplied(2, delivery(0, 30, 35, 1, 51))},
		{"a delivery of no number of pieces", supplied(1, delivery(2, 20, 28, 9, 8))},
	}
}

func rightBooks() []change {
	return []change{
		{"the example", func(b *api.LackBook) {}},
		{"the largest", func(b *api.LackBook) { *b = largest() }},
		{"the least", func(b *api.LackBook) {
			*b = api.LackBook{Stock: list(0), Lines: []api.LackLine{line(0, 0, 1, 0, -1)}}
		}},
		{"5 goods", stock(5, 2, 0, 50, 0)},
		{"no pieces in stock", stock(0, 0, 0)},
		{"50 pieces in stock", stock(50, 50, 50)},
		{"10 lines", func(b *api.LackBook) { b.Lines = slices.Repeat(b.Lines[:1], 10) }},
		{"the order 9", ordered(4, line(9, 0, 2, 40, -1))},
		{"a line of the last good", ordered(0, line(0, 2, 3, 10, -1))},
		{"a line of one piece", ordered(0, line(0, 0, 1, 10, -1))},
		{"a line of 20 pieces", ordered(4, line(2, 0, 20, 40, -1))},
		{"a line until the day 0", ordered(0, line(0, 0, 3, 0, -1))},
		{"a line until the day 100", ordered(4, line(2, 0, 2, 100, -1))},
		{"the last good instead", ordered(1, line(0, 1, 4, 20, 2))},
		{"one good instead of the other, and the other way around", ordered(0, line(0, 0, 3, 10, 1))},
		{"no deliveries", func(b *api.LackBook) { b.Deliveries = nil }},
		{"6 deliveries", func(b *api.LackBook) { b.Deliveries = slices.Repeat(b.Deliveries[:1], 6) }},
		{"a delivery on the day 1", supplied(0, delivery(2, 1, 1, 4, 6))},
		{"a delivery on any day", supplied(0, delivery(2, 1, 100, 4, 6))},
		{"a delivery on the day 100", supplied(2, delivery(0, 100, 100, 1, 1))},
		{"a delivery of no pieces", supplied(0, delivery(2, 5, 12, 0, 0))},
		{"a delivery of any number", supplied(0, delivery(2, 5, 12, 0, 50))},
		{"a delivery of 50 pieces", supplied(2, delivery(0, 30, 35, 50, 50))},
	}
}

// P10.1: which books are valid, and that this error is the first one.
func TestP10_1Check(t *testing.T) {
	const e = api.ErrLack
	for _, c := range wrongBooks() {
		b := changed(c.do)
		for _, q := range []question{{0, 0, 0, 0, came(6, 5, 20, 5, 30, 1)}, {-1, -1, -1, -1, nil}, {9, 101, 11, 7, came(0, 0)}} {
			if a := askAll(b, q); a.check != e || a.errnos != (errnos{e, e, e, e, e, e, e, e, e}) || !a.areZero() {
				t.Errorf("%s: %v", c.name, a)
			}
		}
	}
	const ask = api.ErrLackAsk
	for _, c := range rightBooks() {
		b := changed(c.do)
		a := askAll(b, question{len(b.Stock), 0, len(b.Lines), len(b.Deliveries), nil})
		if a.check != api.OK || a.errnos != (errnos{surely: ask, come: ask, last: ask, late: ask, broken: ask}) || !a.areZero() {
			t.Errorf("%s: %v", c.name, a)
		}
	}
}

// P10.1: Surely, and what it can be asked.
func TestP10_1Surely(t *testing.T) {
	two := soldOut([]api.LackLine{wanted(0, 1, 0)}, delivery(1, 1, 3, 2, 50), comes(0, 3, 9), delivery(1, 2, 3, 1, 1), delivery(1, 1, 100, 5, 6), comes(1, 3, 0))
	for _, x := range []struct {
		name      string
		b         api.LackBook
		good, day int
		want      int
	}{
		{"the example by 11", example(), 2, 11, 0},
		{"the example by 12", example(), 2, 12, 4},
		{"the example by 27", example(), 2, 27, 4},
		{"the example by 28", example(), 2, 28, 7},
		{"the example by the last day", example(), 2, 100, 7},
		{"the example by the day 0", example(), 2, 0, 0},
		{"a good of which none comes", example(), 1, 100, 0},
		{"not what is in stock", example(), 0, 34, 0},
		{"another good", example(), 0, 35, 1},
		{"not when it can come", two, 1, 2, 0},
		{"two at once", two, 1, 3, 3},
		{"on the day before the last one", two, 1, 99, 3},
		{"on the last day", two, 1, 100, 8},
		{"the other good", two, 0, 3, 9},
		{"the largest, a day sooner", largest(), 4, 99, 0},
		{"the largest", largest(), 4, 100, 300},
		{"no deliveries", soldOut([]api.LackLine{wanted(0, 1, 0)}), 1, 100, 0},
	} {
		if got, e := lack.Surely(x.b, x.good, x.day); got != x.want || e != api.OK {
			t.Errorf("%s: %d, %d, not %d", x.name, got, e, x.want)
		}
	}
	for good := -2; good < 7; good++ {
		for _, day := range list(-2, -1, 0, 50, 100, 101, 102) {
			want := api.ErrLackAsk
			if 0 <= good && good < 3 && 0 <= day && day <= 100 {
				want = api.OK
			}
			if got, e := lack.Surely(example(), good, day); e != want || want != api.OK && got != 0 {
				t.Errorf("Surely of %d by %d: %d, %d, not %d", good, day, got, e, want)
			}
		}
	}
}

// outcome is what becomes of the lines of a book.
type outcome struct {
	name                  string
	b                     api.LackBook
	shares                []api.LackShare
	left, listed, refused []int
}

// fromStock are books whose lines take from the stock.
func fromStock() []outcome {
	store := func(one, other int, lines ...api.LackLine) api.LackBook {
		return api.LackBook{Stock: list(one, other), Lines: lines}
	}
	return []outcome{
		{"the example", example(), []api.LackShare{share(3, 0, 0, 0), share(2, 2, 0, 0), share(0, 0, 6, 0), share(0, 0, 1, 4), share(0, 0, 1, 1)}, list(0, 0, 0), list(1, 0, 7), list(1, 0, 4)},
		{"enough", store(5, 5, wanted(0, 5, 0)), []api.LackShare{share(5, 0, 0, 0)}, list(0, 5), list(0, 0), list(0, 0)},
		{"more than enough", store(5, 5, wanted(1, 4, 0)), []api.LackShare{share(4, 0, 0, 0)}, list(5, 1), list(0, 0), list(0, 0)},
		{"too few", store(5, 5, wanted(0, 6, 100)), []api.LackShare{share(5, 0, 0, 1)}, list(0, 5), list(0, 0), list(1, 0)},
		{"the other good", store(5, 5, line(0, 0, 8, 0, 1)), []api.LackShare{share(5, 3, 0, 0)}, list(0, 2), list(0, 0), list(0, 0)},
		{"both goods", store(5, 5, line(0, 1, 11, 0, 0)), []api.LackShare{share(5, 5, 0, 1)}, list(0, 0), list(0, 0), list(0, 1)},
		{"only the other good", store(0, 5, line(0, 0, 3, 0, 1)), []api.LackShare{share(0, 3, 0, 0)}, list(0, 2), list(0, 0), list(0, 0)},
		{"the other one is not needed", store(5, 5, line(0, 0, 5, 0, 1)), []api.LackShare{share(5, 0, 0, 0)}, list(0, 5), list(0, 0), list(0, 0)},
		{"what was sent instead is gone", store(1, 5, line(0, 0, 4, 0, 1), wanted(1, 3, 0)), []api.LackShare{share(1, 3, 0, 0), share(2, 0, 0, 1)}, list(0, 0), list(0, 0), list(0, 1)},
		{"whoever came first", store(5, 5, wanted(0, 4, 9), wanted(0, 4, 0), wanted(0, 1, 0)), []api.LackShare{share(4, 0, 0, 0), share(1, 0, 0, 3), share(0, 0, 0, 1)}, list(0, 5), list(0, 0), list(4, 0)},
		{"each one the other", store(3, 1, line(0, 1, 3, 0, 0), line(1, 0, 3, 0, 1)), []api.LackShare{share(1, 2, 0, 0), share(1, 0, 0, 2)}, list(0, 0), list(0, 0), list(2, 0)},
		{"the largest", largest(), []api.LackShare{share(20, 0, 0, 0), share(20, 0, 0, 0), share(10, 10, 0, 0), share(0, 20, 0, 0), share(0, 20, 0, 0), share(0, 0, 20, 0), share(0, 0, 20, 0), share(0, 0, 20, 0), share(0, 0, 20, 0), share(0, 0, 20, 0)}, list(50, 50, 50, 0, 0), list(0, 0, 0, 0, 100), list(0, 0, 0, 0, 0)},
	}
}

// fromLists are books whose lines wait for deliveries. Of the good 1 nothing is ordered.
func fromLists() []outcome {
	lists := func(name string, listed, refused int, shares []api.LackShare, deliveries []api.LackDelivery, lines ...api.LackLine) outcome {
		return outcome{name, soldOut(lines, deliveries...), shares, list(0, 0), list(listed, 0), list(refused, 0)}
	}
	ten := []api.LackDelivery{comes(0, 10, 4)}
	two := []api.LackDelivery{comes(0, 20, 3), comes(0, 10, 4)}
	return []outcome{
		lists("on the day itself", 4, 0, []api.LackShare{share(0, 0, 4, 0)}, ten, wanted(0, 4, 10)),
		lists("a day sooner", 0, 4, []api.LackShare{share(0, 0, 0, 4)}, ten, wanted(0, 4, 9)),
		lists("at any time", 3, 0, []api.LackShare{share(0, 0, 3, 0)}, ten, wanted(0, 3, 100)),
		lists("too few", 4, 1, []api.LackShare{share(0, 0, 4, 1)}, ten, wanted(0, 5, 100)),
		lists("who waits for no day", 0, 1, []api.LackShare{share(0, 0, 0, 1)}, []api.LackDelivery{comes(0, 1, 50)}, wanted(0, 1, 0)),
		lists("not what can come", 2, 8, []api.LackShare{share(0, 0, 2, 8)}, []api.LackDelivery{delivery(0, 1, 10, 2, 50)}, wanted(0, 10, 10)),
		lists("not when it can come", 0, 2, []api.LackShare{share(0, 0, 0, 2)}, []api.LackDelivery{delivery(0, 1, 11, 2, 50)}, wanted(0, 2, 10)),
		lists("on the last day", 2, 0, []api.LackShare{share(0, 0, 2, 0)}, []api.LackDelivery{delivery(0, 1, 100, 2, 50)}, wanted(0, 2, 100)),
		lists("another good comes", 0, 2, []api.LackShare{share(0, 0, 0, 2)}, []api.LackDelivery{comes(1, 1, 50)}, wanted(0, 2, 100)),
		lists("nothing comes instead", 0, 2, []api.LackShare{share(0, 0, 0, 2)}, []api.LackDelivery{comes(1, 1, 50)}, line(0, 0, 2, 100, 1)),
		lists("whoever came first", 4, 2, []api.LackShare{share(0, 0, 3, 0), share(0, 0, 1, 2)}, ten, wanted(0, 3, 10), wanted(0, 3, 10)),
		lists("who waits for less time does not come first", 4, 3, []api.LackShare{share(0, 0, 4, 0), share(0, 0, 0, 3)}, ten, wanted(0, 4, 50), wanted(0, 3, 10)),
		lists("who waits longer leaves the first pieces", 7, 0, []api.LackShare{share(0, 0, 3, 0), share(0, 0, 4, 0)}, two, wanted(0, 3, 20), wanted(0, 4, 10)),
		lists("as many as are left by then", 7, 2, []api.LackShare{share(0, 0, 4, 0), share(0, 0, 3, 2)}, two, wanted(0, 4, 20), wanted(0, 5, 10)),
		lists("no more than are left later", 7, 1, []api.LackShare{share(0, 0, 6, 0), share(0, 0, 1, 1)}, two, wanted(0, 6, 30), wanted(0, 2, 10)),
		lists("no more than are left in between", 7, 3, []api.LackShare{share(0, 0, 1, 0), share(0, 0, 5, 0), share(0, 0, 1, 3)}, two, wanted(0, 1, 100), wanted(0, 5, 20), wanted(0, 4, 10)),
		lists("a good full by 10 has room by 20", 7, 3, []api.LackShare{share(0, 0, 4, 1), share(0, 0, 0, 1), share(0, 0, 3, 1)}, two, wanted(0, 5, 10), wanted(0, 1, 19), wanted(0, 4, 20)),
		lists("three lines of one day", 4, 2, []api.LackShare{share(0, 0, 2, 0), share(0, 0, 2, 0), share(0, 0, 0, 2)}, ten, wanted(0, 2, 15), wanted(0, 2, 15), wanted(0, 2, 15)),
		lists("six deliveries of no pieces", 0, 2, []api.LackShare{share(0, 0, 0, 2)}, slices.Repeat([]api.LackDelivery{delivery(0, 1, 1, 0, 50)}, 6), wanted(0, 2, 100)),
		lists("six deliveries of a piece", 6, 14, []api.LackShare{share(0, 0, 6, 14)}, slices.Repeat([]api.LackDelivery{delivery(0, 1, 1, 1, 50)}, 6), wanted(0, 20, 100)),
		{"some of all", api.LackBook{Stock: list(2, 3), Lines: []api.LackLine{line(0, 0, 9, 10, 1)}, Deliveries: []api.LackDelivery{comes(0, 10, 3), comes(1, 1, 9)}}, []api.LackShare{share(2, 3, 3, 1)}, list(0, 0), list(3, 0), list(1, 0)},
		{"two goods, two lists", soldOut([]api.LackLine{wanted(0, 3, 10), wanted(1, 3, 10), wanted(0, 3, 20), wanted(1, 3, 20)}, comes(1, 5, 4), comes(0, 5, 5)), []api.LackShare{share(0, 0, 3, 0), share(0, 0, 3, 0), share(0, 0, 2, 1), share(0, 0, 1, 2)}, list(0, 0), list(5, 4), list(1, 2)},
	}
}

// P10.2: Shares, Left and Missing.
func TestP10_2Shares(t *testing.T) {
	for _, x := range slices.Concat(fromStock(), fromLists()) {
		if got, e := lack.Shares(x.b); !slices.Equal(got, x.shares) || e != api.OK {
			t.Errorf("Shares: %s: %v, %d, not %v", x.name, got, e, x.shares)
		}
		if got, e := lack.Left(x.b); !slices.Equal(got, x.left) || e != api.OK {
			t.Errorf("Left: %s: %v, %d, not %v", x.name, got, e, x.left)
		}
		if listed, refused, e := lack.Missing(x.b); !slices.Equal(listed, x.listed) || !slices.Equal(refused, x.refused) || e != api.OK {
			t.Errorf("Missing: %s: %v, %v, %d, not %v, %v", x.name, listed, refused, e, x.listed, x.refused)
		}
	}
}

// P10.3: orders of which nothing is listed or refused.
func TestP10_3Whole(t *testing.T) {
	store := func(lines ...api.LackLine) api.LackBook {
		return api.LackBook{Stock: list(5, 5), Lines: lines, Deliveries: []api.LackDelivery{comes(0, 10, 1)}}
	}
	for _, x := range []struct {
		name string
		b    api.LackBook
		want []int
	}{
		{"the example", example(), list(0)},
		{"all are sent", store(line(4, 0, 5, 0, -1)), list(4)},
		{"some are sent instead", store(line(4, 0, 10, 0, 1)), list(4)},
		{"a piece is listed", store(line(4, 0, 6, 10, -1)), nil},
		{"a piece is refused", store(line(4, 0, 6, 9, -1)), nil},
		{"listed and refused", store(line(4, 0, 7, 10, -1)), nil},
		{"increasing", store(line(9, 0, 1, 0, -1), line(0, 0, 1, 0, -1), line(5, 1, 1, 0, -1)), list(0, 5, 9)},
		{"each order once", store(line(3, 0, 1, 0, -1), line(1, 0, 1, 0, -1), line(3, 0, 1, 0, -1)), list(1, 3)},
		{"only the last line lacks", store(line(3, 0, 5, 0, -1), line(1, 1, 1, 0, -1), line(3, 0, 1, 0, -1)), list(1)},
		{"only the first line lacks", store(line(3, 0, 6, 0, -1), line(1, 1, 1, 0, -1), line(3, 1, 1, 0, -1)), list(1)},
		{"none", store(line(3, 0, 6, 0, -1), line(1, 1, 6, 0, -1)), nil},
		{"the largest", largest(), nil},
	} {
		if got, e := lack.Whole(x.b); !slices.Equal(got, x.want) || e != api.OK {
			t.Errorf("%s: %v, %d, not %v", x.name, got, e, x.want)
		}
	}
	ten := api.LackBook{Stock: list(10)}
	for order := range 10 {
		ten.Lines = append(ten.Lines, line(9-order, 0, 1, 0, -1))
	}
	if got, e := lack.Whole(ten); !slices.Equal(got, list(0, 1, 2, 3, 4, 5, 6, 7, 8, 9)) || e != api.OK {
		t.Errorf("all ten orders: %v, %d", got, e)
	}
}

// three is a book of three lines of one good, of which the first one waits the longest, and of three deliveries of which the first one can come the last.
func three() api.LackBook {
	return soldOut([]api.LackLine{wanted(0, 2, 30), wanted(0, 3, 10), wanted(0, 2, 10)}, delivery(0, 1, 30, 2, 4), delivery(0, 2, 9, 3, 5), delivery(0, 2, 10, 2, 6))
}

// P10.4: when a line is there.
func TestP10_4Come(t *testing.T) {
	for _, x := range []struct {
		name string
		b    api.LackBook
		line int
		came []api.LackCame
		want int
	}{
		{"the example", example(), 2, came(6, 5, 20, 5, 30, 1), 20},
		{"the example, who waits for less time", example(), 3, came(6, 5, 20, 5, 30, 1), 6},
		{"the example, another good", example(), 4, came(6, 5, 20, 5, 30, 1), 30},
		{"the example, later", example(), 2, came(12, 4, 28, 3, 35, 1), 28},
		{"the example, who waits for less time, later", example(), 3, came(12, 4, 28, 3, 35, 1), 12},
		{"the example, as many as can be", example(), 2, came(5, 6, 20, 9, 30, 1), 20},
		{"three, late: who waits the longest is the last", three(), 0, came(30, 2, 9, 3, 10, 2), 30},
		{"three, late: the first one of one day", three(), 1, came(30, 2, 9, 3, 10, 2), 9},
		{"three, late: the second one of one day", three(), 2, came(30, 2, 9, 3, 10, 2), 10},
		{"three, the first delivery is the first", three(), 1, came(1, 3, 5, 3, 8, 2), 1},
		{"three, the second delivery is enough for the second one", three(), 2, came(1, 3, 5, 3, 8, 2), 5},
		{"three, the last delivery is needed for the last one", three(), 0, came(1, 3, 5, 3, 8, 2), 8},
		{"three, one delivery is enough for two", three(), 2, came(20, 4, 7, 5, 8, 2), 7},
		{"three, two deliveries are enough", three(), 0, came(20, 4, 7, 5, 8, 2), 8},
		{"three, all on one day", three(), 0, came(5, 2, 5, 3, 5, 2), 5},
		{"three, all on one day, who is the first", three(), 1, came(5, 2, 5, 3, 5, 2), 5},
		{"three, the days of deliveries decide", three(), 2, came(1, 2, 9, 3, 3, 6), 3},
		{"two goods", soldOut([]api.LackLine{wanted(1, 3, 20), wanted(0, 3, 10)}, delivery(0, 1, 5, 3, 9), delivery(1, 7, 9, 3, 4)), 0, came(1, 9, 8, 3), 8},
		{"two goods, the other one", soldOut([]api.LackLine{wanted(1, 3, 20), wanted(0, 3, 10)}, delivery(0, 1, 5, 3, 9), delivery(1, 7, 9, 3, 4)), 1, came(4, 3, 8, 3), 4},
		{"on the last day", soldOut([]api.LackLine{wanted(0, 3, 100)}, delivery(0, 1, 100, 3, 3)), 0, came(100, 3), 100},
		{"on the first day", soldOut([]api.LackLine{wanted(0, 3, 100)}, delivery(0, 1, 100, 3, 3)), 0, came(1, 3), 1},
		{"what is refused is not waited for", soldOut([]api.LackLine{wanted(0, 9, 20), wanted(0, 3, 30)}, delivery(0, 1, 20, 3, 9), delivery(0, 2, 30, 3, 9)), 0, came(9, 3, 30, 9), 9},
		{"what is sent is not waited for", api.LackBook{Stock: list(2), Lines: []api.LackLine{wanted(0, 5, 20)}, Deliveries: []api.LackDelivery{delivery(0, 1, 20, 3, 9), delivery(0, 1, 30, 1, 9)}}, 0, came(9, 3, 30, 9), 9},
		{"nobody before is listed", soldOut([]api.LackLine{wanted(0, 9, 2), wanted(0, 3, 30)}, delivery(0, 1, 20, 3, 9)), 1, came(9, 3), 9},
		{"the largest", largest(), 9, slices.Repeat(came(100, 50), 6), 100},
	} {
		if got, e := lack.Come(x.b, x.line, x.came); got != x.want || e != api.OK {
			t.Errorf("%s: %d, %d, not %d", x.name, got, e, x.want)
		}
	}
}

// P10.4: what cannot truly have come, and the order of errors.
func TestP10_4Errors(t *testing.T) {
	const ask, not, none = api.ErrLackAsk, api.ErrLackNot, api.ErrNone
	truly := came(6, 5, 20, 5, 30, 1)
	lonely := api.LackBook{Stock: list(1), Lines: []api.LackLine{wanted(0, 1, 100), wanted(0, 1, 100)}}
	for _, x := range []struct {
		name string
		b    api.LackBook
		line int
		came []api.LackCame
		e    api.Errno
	}{
		{"a line -1", example(), -1, truly, ask},
		{"a line 5", example(), 5, truly, ask},
		{"a line 5, and what cannot have come", example(), 5, nil, ask},
		{"nothing came", example(), 2, nil, not},
		{"one too few", example(), 2, came(6, 5, 20, 5), not},
		{"one too many", example(), 2, came(6, 5, 20, 5, 30, 1, 30, 1), not},
		{"a day too soon", example(), 2, came(4, 5, 20, 5, 30, 1), not},
		{"a day too late", example(), 2, came(13, 5, 20, 5, 30, 1), not},
		{"a piece too few", example(), 2, came(6, 5, 20, 2, 30, 1), not},
		{"a piece too many", example(), 2, came(6, 5, 20, 10, 30, 1), not},
		{"the last one too late", example(), 2, came(6, 5, 20, 5, 36, 1), not},
		{"the last one too few", example(), 2, came(6, 5, 20, 5, 30, 0), not},
		{"another good comes too late", example(), 4, came(13, 5, 20, 5, 30, 1), not},
		{"nothing of the line is listed, nor can it have come", example(), 0, came(6, 5, 20, 5, 30, 2), not},
		{"nothing of the line is listed", example(), 0, truly, none},
		{"others are sent instead", example(), 1, truly, none},
		{"on the ends", example(), 0, came(5, 6, 28, 3, 35, 1), none},
		{"on the other ends", example(), 0, came(12, 4, 20, 9, 30, 1), none},
		{"all is refused", soldOut([]api.LackLine{wanted(0, 3, 9)}, comes(0, 10, 3)), 0, came(10, 3), none},
		{"no deliveries, and all is sent", lonely, 0, nil, none},
		{"no deliveries, and all is refused", lonely, 1, came(), none},
		{"no deliveries, but one came", lonely, 1, came(1, 1), not},
	} {
		if got, e := lack.Come(x.b, x.line, x.came); got != 0 || e != x.e {
			t.Errorf("%s: %d, %d, not %d", x.name, got, e, x.e)
		}
	}
	for l := range 3 {
		if got, e := lack.Come(three(), l, came(31, 2, 9, 3, 10, 2)); got != 0 || e != not {
			t.Errorf("a day too late of three: %d: %d, %d", l, got, e)
		}
	}
}

// P10.5: when a line surely is there.
func TestP10_5Last(t *testing.T) {
	const ask, none = api.ErrLackAsk, api.ErrNone
	goods := soldOut([]api.LackLine{wanted(0, 3, 50), wanted(1, 3, 50)}, comes(0, 10, 3), comes(1, 20, 3))
	for _, x := range []struct {
		name string
		b    api.LackBook
		line int
		want int
		e    api.Errno
	}{
		{"the example 0", example(), 0, 0, none},
		{"the example 1", example(), 1, 0, none},
		{"the example 2", example(), 2, 28, api.OK},
		{"the example 3", example(), 3, 12, api.OK},
		{"the example 4", example(), 4, 35, api.OK},
		{"the example -1", example(), -1, 0, ask},
		{"the example 5", example(), 5, 0, ask},
		{"three 0", three(), 0, 30, api.OK},
		{"three 1", three(), 1, 9, api.OK},
		{"three 2", three(), 2, 10, api.OK},
		{"three 3", three(), 3, 0, ask},
		{"all is refused", soldOut([]api.LackLine{wanted(0, 3, 9)}, comes(0, 10, 3)), 0, 0, none},
		{"no deliveries", soldOut([]api.LackLine{wanted(0, 3, 9)}), 0, 0, none},
		{"sooner than it must be", soldOut([]api.LackLine{wanted(0, 3, 90)}, comes(0, 10, 3), comes(0, 80, 9)), 0, 10, api.OK},
		{"one good", goods, 0, 10, api.OK},
		{"another good", goods, 1, 20, api.OK},
		{"the largest, sent", largest(), 4, 0, none},
		{"the largest, listed", largest(), 5, 100, api.OK},
	} {
		if got, e := lack.Last(x.b, x.line); got != x.want || e != x.e {
			t.Errorf("%s: %d, %d, not %d, %d", x.name, got, e, x.want, x.e)
		}
	}
}

// supplies is what is told of the deliveries of a book.
type supplies struct {
	name   string
	b      api.LackBook
	late   []int
	broken [][]int
}

func allSupplies() []supplies {
	one := func(until int, deliveries ...api.LackDelivery) api.LackBook {
		return soldOut([]api.LackLine{wanted(0, 3, until)}, deliveries...)
	}
	lines := func(l ...int) [][]int { return [][]int{l} }
	return []supplies{
		{"the example", example(), list(3, 2, 5), [][]int{{2, 3}, {2, 3}, {4}}},
		{"on the last day on which it is waited for", one(10, comes(0, 10, 3)), list(0), lines(0)},
		{"some days sooner", one(10, comes(0, 4, 3)), list(6), lines(0)},
		{"as the last day says", one(10, delivery(0, 1, 4, 3, 9)), list(6), lines(0)},
		{"the first day, the last day", one(100, comes(0, 1, 3)), list(99), lines(0)},
		{"the last day, the last day", one(100, comes(0, 100, 3)), list(0), lines(0)},
		{"not needed", one(10, comes(0, 11, 3)), list(100), lines()},
		{"nobody is listed", one(0, comes(0, 1, 3)), list(100), lines()},
		{"no pieces", one(10, comes(0, 4, 3), delivery(0, 1, 4, 0, 50)), list(6, 100), [][]int{{0}, nil}},
		{"each one is enough", one(10, comes(0, 4, 3), comes(0, 5, 3)), list(100, 100), [][]int{nil, nil}},
		{"each one is enough, beyond the last day", one(100, comes(0, 100, 3), comes(0, 99, 3)), list(100, 100), [][]int{nil, nil}},
		{"both are needed", one(10, comes(0, 4, 2), comes(0, 5, 2)), list(6, 5), [][]int{{0}, {0}}},
		{"another good", one(10, comes(0, 4, 3), comes(1, 5, 3)), list(6, 100), [][]int{{0}, nil}},
		{"a line of another good", soldOut([]api.LackLine{wanted(1, 1, 20), wanted(0, 1, 20)}, comes(0, 4, 1), comes(1, 5, 1)), list(16, 15), [][]int{{1}, {0}}},
		{"the first line is kept", soldOut([]api.LackLine{wanted(0, 3, 30), wanted(0, 4, 20)}, comes(0, 10, 3), comes(0, 15, 4)), list(20, 5), [][]int{{1}, {1}}},
		{"the first line breaks, and all behind it", soldOut([]api.LackLine{wanted(0, 3, 10), wanted(0, 1, 30), wanted(0, 3, 30)}, comes(0, 10, 3), comes(0, 15, 4)), list(0, 15), [][]int{{0, 1, 2}, {1, 2}}},
		{"a line that is not listed in between", soldOut([]api.LackLine{wanted(0, 3, 10), wanted(0, 1, 5), wanted(1, 1, 50), wanted(0, 3, 30)}, comes(0, 10, 3), comes(0, 15, 4), comes(1, 1, 1)), list(0, 15, 49), [][]int{{0, 3}, {3}, {2}}},
		{"who waits for less time gets the pieces of the other delivery", soldOut([]api.LackLine{wanted(0, 3, 50), wanted(0, 2, 20)}, comes(0, 10, 3), comes(0, 20, 2)), list(40, 30), [][]int{{0, 1}, {1}}},
		{"the largest", largest(), slices.Repeat(list(100), 6), make([][]int, 6)},
	}
}

// P10.6: by how many days a delivery can be later.
func TestP10_6Late(t *testing.T) {
	for _, x := range allSupplies() {
		for i, want := range x.late {
			if got, e := lack.Late(x.b, i); got != want || e != api.OK {
				t.Errorf("%s: %d: %d, %d, not %d", x.name, i, got, e, want)
			}
		}
	}
}

// P10.7: who cannot be kept if a delivery never comes.
func TestP10_7Broken(t *testing.T) {
	for _, x := range allSupplies() {
		for i, want := range x.broken {
			if got, e := lack.Broken(x.b, i); !slices.Equal(got, want) || e != api.OK {
				t.Errorf("%s: %d: %v, %d, not %v", x.name, i, got, e, want)
			}
		}
	}
}

// P10.6, P10.7: which deliveries can be asked about.
func TestP10_6Asked(t *testing.T) {
	bare := changed(func(b *api.LackBook) { b.Deliveries = nil })
	for _, x := range []struct {
		b    api.LackBook
		many int
	}{{example(), 3}, {largest(), 6}, {bare, 0}} {
		for number := -2; number < 9; number++ {
			want := api.ErrLackAsk
			if 0 <= number && number < x.many {
				want = api.OK
			}
			late, e := lack.Late(x.b, number)
			broken, f := lack.Broken(x.b, number)
			if e != want || f != want || want != api.OK && (late != 0 || len(broken) > 0) {
				t.Errorf("of the delivery %d of %d: %d, %d, %v, %d, not %d", number, x.many, late, e, broken, f, want)
			}
		}
	}
}
