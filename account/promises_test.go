package account_test

import (
	"slices"
	"testing"

	"wishbook/account"
	"wishbook/api"
	"wishbook/sample"
)

// question is what is asked about a file.
type question struct{ order, line, day, until int }

// answers are what all functions return of a file.
type answers struct {
	check           api.Errno
	cost, back      int
	owes, due, fees int
	open            []api.AccountOpen
	next            [2]int
	clear, enough   int
	errnos          errnos
}

// errnos are the errors of all functions but Check.
type errnos struct{ cost, back, owes, due, fees, open, next, clear, enough api.Errno }

func askAll(f api.AccountFile, q question) answers {
	var a answers
	a.check = account.Check(f)
	a.cost, a.errnos.cost = account.Cost(f, q.order)
	a.back, a.errnos.back = account.Back(f, q.order, q.line)
	a.owes, a.errnos.owes = account.Owes(f, q.day)
	a.due, a.errnos.due = account.Due(f, q.day)
	a.fees, a.errnos.fees = account.Fees(f, q.day)
	a.open, a.errnos.open = account.Open(f, q.day)
	a.next[0], a.next[1], a.errnos.next = account.Next(f, q.day)
	a.clear, a.errnos.clear = account.Clear(f)
	a.enough, a.errnos.enough = account.Enough(f, q.day, q.until)
	return a
}

// areZero reports whether with each error the other results are zero.
func (a answers) areZero() bool {
	e := a.errnos
	return (e.cost == api.OK || a.cost == 0) && (e.back == api.OK || a.back == 0) && (e.owes == api.OK || a.owes == 0) &&
		(e.due == api.OK || a.due == 0) && (e.fees == api.OK || a.fees == 0) && (e.open == api.OK || len(a.open) == 0) &&
		(e.next == api.OK || a.next == [2]int{}) && (e.clear == api.OK || a.clear == 0) && (e.enough == api.OK || a.enough == 0)
}

// all is the same error of all functions but Check.
func all(e api.Errno) errnos { return errnos{e, e, e, e, e, e, e, e, e} }

// change makes another file of the example.
type change struct {
	name string
	do   func(f *api.AccountFile)
}

func changed(do func(f *api.AccountFile)) api.AccountFile {
	f := clone(example())
	do(&f)
	return f
}

// more adds some events.
func more(events ...api.AccountEvent) func(f *api.AccountFile) {
	return func(f *api.AccountFile) { *f = with(*f, events...) }
}

func numbers(grace, fee int) func(f *api.AccountFile) {
	return func(f *api.AccountFile) { f.Grace, f.Fee = grace, fee }
}

// last puts something in the place of the order 8.
func last(e api.AccountEvent) func(f *api.AccountFile) {
	return func(f *api.AccountFile) { f.Events[3] = e }
}

func boots(many int) api.BookLine { return line(many, 0, 40, 0) }

func wrongNumbers() []change {
	return []change{
		{"nothing", func(f *api.AccountFile) { *f = api.AccountFile{} }},
		{"no rack", func(f *api.AccountFile) { f.Rack = api.BookRack{} }},
		{"no rack, and no events", func(f *api.AccountFile) { f.Rack, f.Events = api.BookRack{}, nil }},
		{"a wrong rack", func(f *api.AccountFile) { f.Rack.Issues[1].Held = 259 }},
		{"a wrong rack, and no orders", func(f *api.AccountFile) { f.Rack.Goods, f.Events = 25, f.Events[1:2] }},
		{"a grace of -1", numbers(-1, 25)},
		{"a grace of 61", numbers(61, 25)},
		{"a fee of -1", numbers(5, -1)},
		{"a fee of 10001", numbers(5, 10001)},
		{"25 events", func(f *api.AccountFile) { f.Events = slices.Repeat([]api.AccountEvent{paid(1, 1)}, 25) }},
		{"the kind -1", last(api.AccountEvent{Kind: -1, Day: 1, Order: 8, Parts: 1, Lines: []api.BookLine{boots(1)}, Many: 1, Cents: 1})},
		{"the kind 3", last(api.AccountEvent{Kind: 3, Day: 301, Order: 7, Parts: 1, Lines: []api.BookLine{boots(1)}, Many: 1, Cents: 1})},
		{"a payment on the day -1", more(paid(-1, 1))},
		{"a payment on the day 4001", more(paid(4001, 1))},
		{"a payment of 0", more(paid(1, 0))},
		{"a payment of -1", more(paid(1, -1))},
		{"a payment of 1000001", more(paid(1, 1000001))},
		{"a wrong payment at first", func(f *api.AccountFile) { f.Events = slices.Insert(f.Events, 0, paid(1, 0)) }},
	}
}

func wrongOrders() []change {
	return []change{
		{"the order 0", last(order(301, 0, 1, boots(1)))},
		{"the order 100", last(order(301, 100, 1, boots(1)))},
		{"the order -1", last(order(301, -1, 1, boots(1)))},
		{"an order twice", last(order(301, 7, 1, boots(1)))},
		{"an order on two days", more(order(302, 8, 1, boots(1)))},
		{"no parts", last(order(301, 8, 0, boots(1)))},
		{"-1 parts", last(order(301, 8, -1, boots(1)))},
		{"13 parts", last(order(301, 8, 13, boots(1)))},
		{"no lines", last(order(301, 8, 1))},
		{"21 lines", last(order(301, 8, 1, slices.Repeat([]api.BookLine{boots(1)}, 21)...))},
		{"no pieces", last(order(301, 8, 1, boots(0)))},
		{"1001 pieces", last(order(301, 8, 1, boots(1), boots(1001)))},
		{"a good that there is not", last(order(301, 8, 1, line(1, 3, 40, 0)))},
		{"a size that there never is", last(order(301, 8, 1, line(1, 0, 100, 0)))},
		{"a size that has no price", last(order(301, 8, 1, boots(1), line(1, 0, 39, 0)))},
		{"prices that are not held any more", last(order(301, 8, 1, line(1, 0, 41, 0)))},
		{"a day before the books", last(order(99, 8, 1, boots(1)))},
		{"a day behind the books", last(order(451, 8, 1, boots(1)))},
		{"an order on the day -1", func(f *api.AccountFile) { *f = simple(1, 1, bill(-1, 1, 1, 10)) }},
		{"an order on the day 4001", func(f *api.AccountFile) { *f = simple(1, 1, bill(4001, 1, 1, 10)) }},
	}
}

func wrongReturns() []change {
	return []change{
		{"an order that there is not", more(back(310, 9, 0, 1))},
		{"the number of no order", more(back(310, 0, 0, 1))},
		{"an order that is written later", more(back(300, 8, 0, 1))},
		{"the day before the order", more(back(269, 7, 1, 1))},
		{"the day -1", more(back(-1, 7, 0, 1))},
		{"the day 4001", more(back(4001, 7, 0, 1))},
		{"the line -1", more(back(310, 7, -1, 1))},
		{"a line too many", more(back(310, 7, 2, 1))},
		{"a line of another order", more(back(310, 8, 1, 1))},
		{"the line 20", more(back(310, 7, 20, 1))},
		{"no pieces come back", more(back(310, 7, 0, 0))},
		{"-1 pieces come back", more(back(310, 7, 0, -1))},
		{"1001 pieces come back", more(back(310, 7, 0, 1001))},
		{"a piece too many", more(back(310, 8, 0, 2))},
		{"a piece too many altogether", more(back(311, 7, 0, 12))},
		{"a piece too many with an earlier return", more(back(270, 7, 0, 12))},
		{"a piece too many in several returns", more(back(310, 7, 0, 5), back(310, 7, 0, 5), back(310, 7, 0, 2))},
		{"1000 pieces and 1000 more", func(f *api.AccountFile) {
			*f = simple(1, 1, order(1, 1, 1, line(1000, 0, 1, 0)), back(1, 1, 0, 1000), back(1, 1, 0, 1000))
		}},
	}
}

func rightFiles() []change {
	all := api.AccountEvent{Day: 280, Order: -9, Parts: -9, Lines: []api.BookLine{line(-9, -9, -9, -9)}, Line: -9, Many: -9, Cents: -9}
	return []change{
		{"the example", func(f *api.AccountFile) {}},
		{"the largest", func(f *api.AccountFile) { *f = largest() }},
		{"no events", func(f *api.AccountFile) { f.Events = nil }},
		{"an empty list of events", func(f *api.AccountFile) { f.Events = []api.AccountEvent{} }},
		{"the least numbers", numbers(0, 0)},
		{"the greatest numbers", numbers(60, 10000)},
		{"24 events", func(f *api.AccountFile) { f.Events = slices.Repeat([]api.AccountEvent{paid(1, 1)}, 24) }},
		{"the first day and the last one", func(f *api.AccountFile) {
			*f = simple(0, 0, bill(0, 1, 1, 10), paid(0, 1), back(0, 1, 0, 1), bill(4000, 99, 12, 10), paid(4000, 1000000), back(4000, 99, 0, 1))
		}},
		{"20 lines", last(order(301, 8, 12, slices.Repeat([]api.BookLine{boots(1000)}, 20)...))},
		{"all comes back", more(back(310, 7, 0, 11), back(310, 8, 0, 1), back(400, 7, 1, 2))},
		{"back on the day of the order", more(back(270, 7, 0, 11))},
		{"a return ahead of its order in the list", func(f *api.AccountFile) { slices.Reverse(f.Events) }},
		{"a return of an order that is written earlier, and stands behind", more(back(301, 8, 0, 1))},
		{"in a payment nothing else is looked at", func(f *api.AccountFile) {
			e := all
			e.Kind, e.Cents = api.AccountPaid, 1
			f.Events[1] = e
		}},
		{"in an order nothing else is looked at", func(f *api.AccountFile) { f.Events[0].Line, f.Events[0].Many, f.Events[0].Cents = -9, -9, -9 }},
		{"in a return nothing else is looked at", func(f *api.AccountFile) {
			f.Events[2].Parts, f.Events[2].Lines, f.Events[2].Cents = -9, all.Lines, -9
		}},
		{"a payment with the number of an order", func(f *api.AccountFile) { f.Events[1].Order = 7 }},
		{"1000 pieces come back", func(f *api.AccountFile) {
			*f = simple(1, 1, order(1, 1, 1, line(1000, 0, 1, 0)), back(1, 1, 0, 1000))
		}},
		{"the numbers 1 and 99", func(f *api.AccountFile) { *f = simple(1, 1, bill(1, 1, 1, 1), bill(1, 99, 1, 1)) }},
	}
}

// P7.1: which files are valid, and that this error is the first one.
func TestP7_1Check(t *testing.T) {
	for _, c := range slices.Concat(wrongNumbers(), wrongOrders(), wrongReturns()) {
		f := changed(c.do)
		for _, q := range []question{{7, 0, 310, 335}, {9, 2, 330, 330}, {0, -1, -1, -2}, {100, 20, 4001, 4001}} {
			if a := askAll(f, q); a.check != api.ErrAccount || a.errnos != all(api.ErrAccount) || !a.areZero() {
				t.Errorf("%s: %v", c.name, a)
			}
		}
	}
	const ask = api.ErrAccountAsk
	for _, c := range rightFiles() {
		a := askAll(changed(c.do), question{100, 20, 4001, 4001})
		if a.check != api.OK || a.errnos != (errnos{ask, ask, ask, ask, ask, ask, ask, a.errnos.clear, ask}) || !a.areZero() || a.errnos.clear == api.ErrAccount {
			t.Errorf("%s: %v", c.name, a)
		}
		a = askAll(changed(c.do), question{1, 0, 4000, 4000})
		if e := a.errnos; e.owes != api.OK || e.due != api.OK || e.fees != api.OK || e.open != api.OK || e.enough != api.OK {
			t.Errorf("%s: %v", c.name, a)
		}
	}
}

// P7.1: what an order costs.
func TestP7_1Cost(t *testing.T) {
	for _, x := range []struct {
		name  string
		f     api.AccountFile
		order int
		want  int
		e     api.Errno
	}{
		{"the order 7", example(), 7, 10900, api.OK},
		{"the order 8", example(), 8, 980, api.OK},
		{"an order that there is not", example(), 9, 0, api.ErrNone},
		{"the order 1", example(), 1, 0, api.ErrNone},
		{"the order 99", example(), 99, 0, api.ErrNone},
		{"the number 0", example(), 0, 0, api.ErrAccountAsk},
		{"the number 100", example(), 100, 0, api.ErrAccountAsk},
		{"the number -1", example(), -1, 0, api.ErrAccountAsk},
		{"no events", simple(0, 0), 1, 0, api.ErrNone},
		{"the number is only that of a payment", simple(0, 0, api.AccountEvent{Day: 1, Kind: api.AccountPaid, Order: 1, Cents: 1}), 1, 0, api.ErrNone},
		{"whatever came back", with(example(), back(311, 7, 0, 11), back(310, 7, 1, 2)), 7, 10900, api.OK},
		{"a bill", simple(0, 0, bill(0, 1, 12, 12345)), 1, 12345, api.OK},
		{"25 pieces cost as much as 23", simple(0, 0, order(0, 99, 1, line(25, 0, 3, 0))), 99, 2300, api.OK},
		{"the largest", largest(), 99, 20 * 917 * 99997, api.OK},
	} {
		if got, e := account.Cost(x.f, x.order); got != x.want || e != x.e {
			t.Errorf("Cost: %s: %d, %d, not %d, %d", x.name, got, e, x.want, x.e)
		}
	}
}

// P7.1: what a line gives back.
func TestP7_1Back(t *testing.T) {
	dozens := func(returns ...api.AccountEvent) api.AccountFile {
		return with(simple(0, 0, order(0, 1, 1, line(25, 0, 2, 0), line(12, 0, 1, 0))), returns...)
	}
	for _, x := range []struct {
		name        string
		f           api.AccountFile
		order, line int
		want        int
		e           api.Errno
	}{
		{"the line 0", example(), 7, 0, 900, api.OK},
		{"the line 1", example(), 7, 1, 0, api.OK},
		{"a line that there is not", example(), 7, 2, 0, api.ErrNone},
		{"the line 19", example(), 7, 19, 0, api.ErrNone},
		{"a line of another order", example(), 8, 1, 0, api.ErrNone},
		{"another order", example(), 8, 0, 0, api.OK},
		{"an order that there is not", example(), 9, 0, 0, api.ErrNone},
		{"the line 20", example(), 7, 20, 0, api.ErrAccountAsk},
		{"the line -1", example(), 7, -1, 0, api.ErrAccountAsk},
		{"the line -1 of no order", example(), 9, -1, 0, api.ErrAccountAsk},
		{"the line 20 of no order", example(), 9, 20, 0, api.ErrAccountAsk},
		{"the order 0", example(), 0, 0, 0, api.ErrAccountAsk},
		{"the order 100", example(), 100, 0, 0, api.ErrAccountAsk},
		{"the order 100, and a line that there is not", example(), 100, 3, 0, api.ErrAccountAsk},
		{"all pieces", with(example(), back(311, 7, 0, 11)), 7, 0, 10800, api.OK},
		{"all pieces of another line", with(example(), back(311, 7, 1, 2)), 7, 0, 900, api.OK},
		{"all pieces of this line", with(example(), back(311, 7, 1, 2)), 7, 1, 100, api.OK},
		{"at the price of the day of the order", with(example(), back(4000, 7, 0, 1)), 7, 0, 1800, api.OK},
		{"the price of another day", with(example(), back(301, 8, 0, 1)), 8, 0, 980, api.OK},
		{"the first piece gives all back", dozens(back(5, 1, 0, 1)), 1, 0, 10, api.OK},
		{"the second piece is free", dozens(back(5, 1, 0, 2)), 1, 0, 10, api.OK},
		{"the second piece is free, if it comes later", dozens(back(5, 1, 0, 1), back(6, 1, 0, 1)), 1, 0, 10, api.OK},
		{"a dozen more", dozens(back(5, 1, 0, 2), back(6, 1, 0, 12)), 1, 0, 120, api.OK},
		{"all but one", dozens(back(5, 1, 0, 2), back(6, 1, 0, 22)), 1, 0, 220, api.OK},
		{"all of 25", dozens(back(5, 1, 0, 2), back(6, 1, 0, 23)), 1, 0, 230, api.OK},
		{"the free piece of a dozen", dozens(back(5, 1, 1, 1)), 1, 1, 0, api.OK},
		{"two pieces of a dozen", dozens(back(5, 1, 1, 2), back(6, 1, 0, 3)), 1, 1, 1, api.OK},
	} {
		if got, e := account.Back(x.f, x.order, x.line); got != x.want || e != x.e {
			t.Errorf("Back: %s: %d, %d, not %d, %d", x.name, got, e, x.want, x.e)
		}
	}
}

// day is what is told on a day.
type day struct {
	day, owes, due, fees int
	open                 []api.AccountOpen
}

// story is a file, and what is told of it on some days.
type story struct {
	name string
	f    api.AccountFile
	days []day
}

func exampleStory() story {
	first, second, third := open(7, 0, 270, 3634), open(7, 1, 300, 3633), open(7, 2, 330, 3633)
	return story{"the example", example(), []day{
		{0, 0, 0, 0, nil},
		{269, 0, 0, 0, nil},
		{270, 10900, 3634, 0, opens(first, second, third)},
		{274, 10900, 3634, 0, opens(first, second, third)},
		{275, 10925, 3659, 1, opens(first, second, third)},
		{279, 10925, 3659, 1, opens(first, second, third)},
		{280, 6925, 0, 1, opens(open(7, 1, 300, 3292), third)},
		{299, 6925, 0, 1, opens(open(7, 1, 300, 3292), third)},
		{300, 6925, 3292, 1, opens(open(7, 1, 300, 3292), third)},
		{301, 7905, 4272, 1, opens(open(7, 1, 300, 3292), open(8, 0, 301, 980), third)},
		{305, 7930, 4297, 2, opens(open(7, 1, 300, 3292), open(8, 0, 301, 980), third)},
		{306, 7955, 4322, 3, opens(open(7, 1, 300, 3292), open(8, 0, 301, 980), third)},
		{310, 7055, 4322, 3, opens(open(7, 1, 300, 3292), open(8, 0, 301, 980), open(7, 2, 330, 2733))},
		{330, 7055, 7055, 3, opens(open(7, 1, 300, 3292), open(8, 0, 301, 980), open(7, 2, 330, 2733))},
		{335, 7080, 7080, 4, opens(open(7, 1, 300, 3292), open(8, 0, 301, 980), open(7, 2, 330, 2733))},
		{4000, 7080, 7080, 4, opens(open(7, 1, 300, 3292), open(8, 0, 301, 980), open(7, 2, 330, 2733))},
	}}
}

func storiesOfPayments() []story {
	return []story{
		{"no events", simple(0, 1), []day{{0, 0, 0, 0, nil}, {4000, 0, 0, 0, nil}}},
		{"no grace: a fee on the day itself", simple(0, 7, bill(10, 1, 2, 9)), []day{
			{9, 0, 0, 0, nil},
			{10, 16, 12, 1, opens(open(1, 0, 10, 5), open(1, 1, 40, 4))},
			{39, 16, 12, 1, opens(open(1, 0, 10, 5), open(1, 1, 40, 4))},
			{40, 23, 23, 2, opens(open(1, 0, 10, 5), open(1, 1, 40, 4))},
			{4000, 23, 23, 2, opens(open(1, 0, 10, 5), open(1, 1, 40, 4))},
		}},
		{"no grace, and paid on the day itself", simple(0, 7, paid(10, 5), bill(10, 1, 2, 9), paid(40, 4)), []day{
			{10, 4, 0, 0, opens(open(1, 1, 40, 4))},
			{40, 0, 0, 0, nil},
		}},
		{"paid on the last day of grace", simple(5, 7, bill(10, 1, 1, 9), paid(15, 9)), []day{{14, 9, 9, 0, opens(open(1, 0, 10, 9))}, {15, 0, 0, 0, nil}}},
		{"paid a day later", simple(5, 7, bill(10, 1, 1, 9), paid(16, 9)), []day{{15, 16, 16, 1, opens(open(1, 0, 10, 9))}, {16, 7, 7, 1, opens(open(1, 0, 10, 7))}}},
		{"all but a cent is paid", simple(5, 7, bill(10, 1, 1, 9), paid(15, 8)), []day{{15, 8, 8, 1, opens(open(1, 0, 10, 1))}}},
		{"what was paid for a later instalment stays there", simple(5, 7, bill(10, 1, 2, 20), paid(10, 10), paid(14, 10), bill(15, 2, 1, 10), paid(41, 10)), []day{
			{14, 0, 0, 0, nil},
			{15, 10, 10, 0, opens(open(2, 0, 15, 10))},
			{20, 17, 17, 1, opens(open(2, 0, 15, 10))},
			{41, 7, 7, 1, opens(open(2, 0, 15, 7))},
		}},
		{"what is paid later is for what is due then", simple(5, 7, bill(10, 1, 2, 20), paid(10, 10), paid(16, 10), bill(15, 2, 1, 10), paid(41, 10)), []day{
			{15, 20, 10, 0, opens(open(2, 0, 15, 10), open(1, 1, 40, 10))},
			{20, 10, 0, 0, opens(open(1, 1, 40, 10))},
			{41, 0, 0, 0, nil},
		}},
		{"fees are paid first, and each only once", simple(60, 7, bill(10, 1, 1, 9), paid(71, 6), paid(72, 5), paid(100, 4)), []day{
			{69, 9, 9, 0, opens(open(1, 0, 10, 9))},
			{70, 16, 16, 1, opens(open(1, 0, 10, 9))},
			{71, 10, 10, 1, opens(open(1, 0, 10, 9))},
			{72, 5, 5, 1, opens(open(1, 0, 10, 5))},
			{100, 1, 1, 1, opens(open(1, 0, 10, 1))},
			{4000, 1, 1, 1, opens(open(1, 0, 10, 1))},
		}},
		{"fees that cost nothing are fees", simple(1, 0, bill(10, 1, 3, 9)), []day{{11, 9, 3, 1, opens(open(1, 0, 10, 3), open(1, 1, 40, 3), open(1, 2, 70, 3))}, {71, 9, 9, 3, opens(open(1, 0, 10, 3), open(1, 1, 40, 3), open(1, 2, 70, 3))}}},
		{"what is left over is paid with later", simple(0, 7, paid(3, 20), bill(10, 1, 1, 9), bill(12, 2, 2, 15)), []day{
			{2, 0, 0, 0, nil},
			{3, -20, 0, 0, nil},
			{9, -20, 0, 0, nil},
			{10, -11, 0, 0, nil},
			{12, 4, 0, 0, opens(open(2, 1, 42, 4))},
			{42, 11, 11, 1, opens(open(2, 1, 42, 4))},
		}},
		{"several payments of a day", simple(0, 7, bill(10, 1, 1, 9), paid(10, 4), paid(10, 5), paid(10, 6)), []day{{10, -6, 0, 0, nil}}},
		{"the one that is due first, whatever was ordered first", simple(5, 7, bill(10, 1, 3, 30), bill(20, 9, 3, 30), paid(20, 31)), []day{
			{15, 37, 17, 1, opens(open(1, 0, 10, 10), open(1, 1, 40, 10), open(1, 2, 70, 10))},
			{20, 36, 0, 1, opens(open(9, 0, 20, 0), open(1, 1, 40, 6), open(9, 1, 50, 10), open(1, 2, 70, 10), open(9, 2, 80, 10))[1:]},
		}},
		{"due on one day, that of the lesser order", simple(5, 7, bill(40, 3, 2, 20), bill(10, 5, 2, 20), bill(40, 2, 1, 10), paid(45, 31)), []day{
			{40, 57, 47, 1, opens(open(5, 0, 10, 10), open(2, 0, 40, 10), open(3, 0, 40, 10), open(5, 1, 40, 10), open(3, 1, 70, 10))},
			{45, 40, 30, 3, opens(open(3, 0, 40, 6), open(5, 1, 40, 10), open(3, 1, 70, 10))},
		}},
		{"instalments of nothing are not open", simple(0, 7, bill(10, 1, 12, 2)), []day{
			{10, 9, 8, 1, opens(open(1, 0, 10, 1), open(1, 1, 40, 1))},
			{4000, 16, 16, 2, opens(open(1, 0, 10, 1), open(1, 1, 40, 1))},
		}},
		{"a fee on the last day, and none behind it", simple(60, 7, bill(3940, 1, 2, 8)), []day{{3999, 8, 8, 0, opens(open(1, 0, 3940, 4), open(1, 1, 3970, 4))}, {4000, 15, 15, 1, opens(open(1, 0, 3940, 4), open(1, 1, 3970, 4))}}},
		{"due behind the last day", simple(0, 7, bill(4000, 1, 3, 9), paid(4000, 4)), []day{{4000, 5, 0, 0, opens(open(1, 1, 4030, 2), open(1, 2, 4060, 3))}}},
	}
}

func storiesOfReturns() []story {
	three := bill(10, 1, 3, 30) // 3 pieces of 10
	return []story{
		{"the last instalment first", simple(60, 7, three, back(11, 1, 0, 1)), []day{
			{10, 30, 10, 0, opens(open(1, 0, 10, 10), open(1, 1, 40, 10), open(1, 2, 70, 10))},
			{11, 20, 10, 0, opens(open(1, 0, 10, 10), open(1, 1, 40, 10))},
		}},
		{"back on the day of the order", simple(0, 7, three, back(10, 1, 0, 2)), []day{{10, 17, 17, 1, opens(open(1, 0, 10, 10))}}},
		{"more than the last instalment", simple(60, 7, bill(10, 1, 3, 34), back(11, 1, 0, 1), back(12, 1, 1, 1)), []day{
			{11, 33, 12, 0, opens(open(1, 0, 10, 12), open(1, 1, 40, 11), open(1, 2, 70, 10))},
			{12, 23, 12, 0, opens(open(1, 0, 10, 12), open(1, 1, 40, 11))},
		}},
		{"as far as something is missing", simple(60, 7, three, paid(10, 25), back(11, 1, 0, 2)), []day{
			{10, 5, 0, 0, opens(open(1, 2, 70, 5))},
			{11, -15, 0, 0, nil},
		}},
		{"what is left over pays another order", simple(60, 7, three, paid(10, 25), bill(11, 2, 2, 20), back(11, 1, 0, 2)), []day{
			{11, 5, 0, 0, opens(open(2, 1, 41, 5))},
		}},
		{"what is left over pays what is due first", simple(60, 7, bill(10, 1, 1, 30), bill(50, 2, 1, 10), bill(20, 3, 2, 20), paid(10, 30), back(50, 1, 0, 2)), []day{
			{50, 10, 10, 0, opens(open(3, 1, 50, 10))},
		}},
		{"it does not pay fees, as long as its own order is open", simple(0, 7, three, back(11, 1, 0, 1)), []day{
			{10, 37, 17, 1, opens(open(1, 0, 10, 10), open(1, 1, 40, 10), open(1, 2, 70, 10))},
			{11, 27, 17, 1, opens(open(1, 0, 10, 10), open(1, 1, 40, 10))},
		}},
		{"what is left over pays fees first", simple(5, 7, three, bill(10, 2, 1, 20), paid(10, 40), paid(40, 10), back(60, 1, 0, 1), back(61, 1, 0, 1)), []day{
			{15, 10, 0, 0, opens(open(1, 2, 70, 10))},
			{40, 0, 0, 0, nil},
			{60, -10, 0, 0, nil},
			{61, -20, 0, 0, nil},
		}},
		{"fees of another order are paid first", simple(0, 7, bill(10, 1, 1, 30), paid(10, 30), bill(20, 2, 1, 50), back(21, 1, 0, 1)), []day{
			{20, 57, 57, 1, opens(open(2, 0, 20, 50))},
			{21, 47, 47, 1, opens(open(2, 0, 20, 47))},
		}},
		{"returns come before payments", simple(60, 7, three, paid(12, 15), back(12, 1, 0, 2)), []day{
			{12, -5, 0, 0, nil},
		}},
		{"a payment of the day pays what returns leave", simple(60, 7, three, bill(10, 2, 1, 5), paid(12, 12), back(12, 1, 0, 1)), []day{
			{12, 13, 3, 0, opens(open(2, 0, 10, 3), open(1, 1, 40, 10))},
		}},
		{"each order's own instalments", simple(60, 7, three, bill(10, 2, 3, 30), back(12, 1, 0, 1), back(12, 2, 0, 2)), []day{
			{12, 30, 20, 0, opens(open(1, 0, 10, 10), open(2, 0, 10, 10), open(1, 1, 40, 10))},
		}},
		{"lines of one order together", simple(60, 7, bill(10, 1, 3, 33), back(12, 1, 0, 2), back(12, 1, 1, 1), back(12, 1, 0, 1)), []day{
			{12, 20, 11, 0, opens(open(1, 0, 10, 11), open(1, 1, 40, 9))},
		}},
		{"a piece that was free", simple(60, 7, order(10, 1, 1, line(13, 0, 2, 0)), back(11, 1, 0, 1), back(12, 1, 0, 1), back(13, 1, 0, 1)), []day{
			{10, 120, 120, 0, opens(open(1, 0, 10, 120))},
			{11, 110, 110, 0, opens(open(1, 0, 10, 110))},
			{12, 110, 110, 0, opens(open(1, 0, 10, 110))},
			{13, 100, 100, 0, opens(open(1, 0, 10, 100))},
		}},
		{"all comes back before anything was paid", simple(5, 7, three, back(15, 1, 0, 3)), []day{
			{14, 30, 10, 0, opens(open(1, 0, 10, 10), open(1, 1, 40, 10), open(1, 2, 70, 10))},
			{15, 0, 0, 0, nil},
			{4000, 0, 0, 0, nil},
		}},
		{"all comes back after a fee", simple(5, 7, three, back(16, 1, 0, 3)), []day{{15, 37, 17, 1, opens(open(1, 0, 10, 10), open(1, 1, 40, 10), open(1, 2, 70, 10))}, {16, 7, 7, 1, nil}, {4000, 7, 7, 1, nil}}},
	}
}

func stories() []story {
	return slices.Concat([]story{exampleStory()}, storiesOfPayments(), storiesOfReturns())
}

// P7.2: what is owed, what is due, and how many fees there were, on a day.
func TestP7_2OwesDueAndFees(t *testing.T) {
	for _, s := range stories() {
		for _, x := range s.days {
			owes, e := account.Owes(s.f, x.day)
			if owes != x.owes || e != api.OK {
				t.Errorf("Owes: %s, on %d: %d, %d, not %d", s.name, x.day, owes, e, x.owes)
			}
			due, e := account.Due(s.f, x.day)
			if due != x.due || e != api.OK {
				t.Errorf("Due: %s, on %d: %d, %d, not %d", s.name, x.day, due, e, x.due)
			}
			fees, e := account.Fees(s.f, x.day)
			if fees != x.fees || e != api.OK {
				t.Errorf("Fees: %s, on %d: %d, %d, not %d", s.name, x.day, fees, e, x.fees)
			}
		}
	}
}

// P7.3: which instalments are open.
func TestP7_3Open(t *testing.T) {
	for _, s := range stories() {
		for _, x := range s.days {
			if got, e := account.Open(s.f, x.day); !slices.Equal(got, x.open) || e != api.OK {
				t.Errorf("Open: %s, on %d: %v, %d, not %v", s.name, x.day, got, e, x.open)
			}
		}
	}
}

// P7.3: on which day something is due next.
func TestP7_3Next(t *testing.T) {
	same := simple(5, 7, bill(10, 1, 3, 30), bill(40, 2, 2, 8), bill(10, 3, 2, 10), paid(41, 21))
	gap := simple(5, 7, bill(10, 1, 2, 30), paid(10, 30), bill(100, 2, 2, 8))
	for _, x := range []struct {
		name string
		f    api.AccountFile
		day  int
		want [2]int
		e    api.Errno
	}{
		{"the example on 280", example(), 280, [2]int{300, 3292}, api.OK},
		{"the example on 310", example(), 310, [2]int{330, 2733}, api.OK},
		{"the example on 330", example(), 330, [2]int{}, api.ErrNone},
		{"the day before", example(), 329, [2]int{330, 2733}, api.OK},
		{"before the first order", example(), 269, [2]int{}, api.ErrNone},
		{"what is due today is not next", example(), 270, [2]int{300, 3633}, api.OK},
		{"an order of a later day is not known yet", example(), 300, [2]int{330, 3633}, api.OK},
		{"the day 4000", example(), 4000, [2]int{}, api.ErrNone},
		{"no events", simple(5, 7), 0, [2]int{}, api.ErrNone},
		{"several on one day", same, 39, [2]int{40, 15}, api.OK},
		{"several on one day, of which some are paid", same, 41, [2]int{70, 14}, api.OK},
		{"all is paid", gap, 11, [2]int{}, api.ErrNone},
		{"the rest is paid already", gap, 99, [2]int{}, api.ErrNone},
		{"another order", gap, 100, [2]int{130, 4}, api.OK},
		{"behind the last day", simple(5, 7, bill(4000, 1, 12, 24)), 4000, [2]int{4030, 2}, api.OK},
		{"the first instalments are paid", simple(5, 7, bill(10, 1, 5, 50), paid(10, 35)), 10, [2]int{100, 5}, api.OK},
		{"fees are not due next", simple(0, 7, bill(10, 1, 1, 50)), 10, [2]int{}, api.ErrNone},
		{"the day -1", example(), -1, [2]int{}, api.ErrAccountAsk},
		{"the day 4001", example(), 4001, [2]int{}, api.ErrAccountAsk},
	} {
		due, cents, e := account.Next(x.f, x.day)
		if got := [2]int{due, cents}; got != x.want || e != x.e {
			t.Errorf("Next: %s: %v, %d, not %v, %d", x.name, got, e, x.want, x.e)
		}
	}
}

// P7.2, P7.5: which days can be asked about.
func TestP7_2Days(t *testing.T) {
	const ask = api.ErrAccountAsk
	for _, day := range slices.Concat(extremes, []int{-2, 4001, 20000}) {
		if day == 0 || day == 1 {
			continue
		}
		a := askAll(example(), question{7, 0, day, day})
		if a.errnos != (errnos{api.OK, api.OK, ask, ask, ask, ask, ask, api.ErrNone, ask}) || !a.areZero() {
			t.Errorf("on %d: %v", day, a)
		}
	}
	for _, day := range []int{0, 1, 4000} {
		a := askAll(example(), question{7, 0, day, day})
		if a.errnos != (errnos{next: api.ErrNone, clear: api.ErrNone}) || !a.areZero() {
			t.Errorf("on %d: %v", day, a)
		}
	}
}

// P7.4: from which day on nothing is owed.
func TestP7_4Clear(t *testing.T) {
	for _, x := range []struct {
		name string
		f    api.AccountFile
		want int
		e    api.Errno
	}{
		{"the example", example(), 0, api.ErrNone},
		{"the example, and a payment of all", with(example(), paid(340, 7080)), 340, api.OK},
		{"the example, and a payment of a cent less", with(example(), paid(340, 7079)), 0, api.ErrNone},
		{"the example, and a payment of all on the last day", with(example(), paid(4000, 7080)), 4000, api.OK},
		{"no events", simple(5, 7), 0, api.OK},
		{"only payments", simple(5, 7, paid(30, 5)), 0, api.OK},
		{"paid before", simple(5, 7, paid(30, 90), bill(40, 1, 2, 90)), 0, api.OK},
		{"paid before, but for a cent", simple(5, 7, paid(30, 89), bill(40, 1, 2, 90), paid(60, 1)), 60, api.OK},
		{"paid on the day of the order", simple(5, 7, bill(40, 1, 2, 90), paid(40, 90)), 0, api.OK},
		{"paid on the day of the order, the day 0", simple(0, 7, bill(0, 1, 2, 90), paid(0, 90)), 0, api.OK},
		{"a day later", simple(5, 7, bill(40, 1, 2, 90), paid(41, 90)), 41, api.OK},
		{"more than once", simple(60, 7, bill(40, 1, 2, 90), paid(41, 100), bill(50, 2, 1, 30), paid(55, 500), bill(70, 3, 1, 30)), 55, api.OK},
		{"an order on the last day", simple(60, 7, bill(40, 1, 2, 90), paid(41, 90), bill(4000, 2, 1, 1)), 0, api.ErrNone},
		{"an order on the last day, that was paid before", simple(60, 7, bill(40, 1, 2, 90), paid(41, 91), bill(4000, 2, 1, 1)), 41, api.OK},
		{"only fees are owed", simple(5, 7, bill(40, 1, 1, 90), paid(46, 90)), 0, api.ErrNone},
		{"fees are paid", simple(5, 7, bill(40, 1, 1, 90), paid(46, 90), paid(48, 7)), 48, api.OK},
		{"all comes back", simple(60, 7, bill(40, 1, 3, 90), back(44, 1, 0, 9)), 44, api.OK},
		{"all comes back, and is paid for", simple(60, 7, bill(40, 1, 3, 90), paid(43, 91), back(44, 1, 0, 9)), 43, api.OK},
		{"a fee on the last day", simple(60, 7, bill(3940, 1, 1, 90)), 0, api.ErrNone},
		{"the largest", largest(), 0, api.ErrNone},
	} {
		if got, e := account.Clear(x.f); got != x.want || e != x.e {
			t.Errorf("Clear: %s: %d, %d, not %d, %d", x.name, got, e, x.want, x.e)
		}
	}
}

// P7.5: how much is enough, so that there is no fee on some days.
func TestP7_5Enough(t *testing.T) {
	two := simple(5, 7, bill(40, 1, 2, 90))
	for _, x := range []struct {
		name       string
		f          api.AccountFile
		day, until int
		want       int
		e          api.Errno
	}{
		{"from 301 to 310", example(), 301, 310, 4272, api.OK},
		{"from 310 to 335", example(), 310, 335, 7055, api.OK},
		{"from 336 to 400", example(), 336, 400, 0, api.OK},
		{"from 336 to the last day", example(), 336, 4000, 0, api.OK},
		{"before the first fee", example(), 0, 274, 0, api.OK},
		{"ahead of all orders", example(), 0, 275, 3634, api.OK},
		{"ahead of all orders, until the last day", example(), 0, 4000, 10900 + 980 - 4000, api.OK},
		{"on the day of a fee", two, 45, 45, 45, api.OK},
		{"until the next fee", two, 45, 75, 90, api.OK},
		{"until the day before the next fee", two, 45, 74, 45, api.OK},
		{"a day behind a fee", two, 46, 46, 0, api.OK},
		{"until the day before a fee", two, 40, 44, 0, api.OK},
		{"fees are paid first", two, 46, 75, 97, api.OK},
		{"on the day of the last fee", two, 75, 75, 97, api.OK},
		{"behind all fees", two, 76, 4000, 0, api.OK},
		{"fees that cost nothing", simple(5, 0, bill(40, 1, 2, 90)), 41, 45, 45, api.OK},
		{"a later payment comes in time", with(two, paid(70, 41)), 45, 75, 49, api.OK},
		{"a later payment comes too late", with(two, paid(76, 41)), 45, 75, 90, api.OK},
		{"a payment on this day", with(two, paid(45, 41)), 45, 45, 4, api.OK},
		{"what is left over", simple(5, 7, paid(10, 50), bill(40, 1, 2, 90)), 50, 75, 40, api.OK},
		{"something comes back later", with(two, back(70, 1, 0, 4)), 41, 75, 50, api.OK},
		{"something comes back too late", with(two, back(76, 1, 0, 4)), 41, 75, 90, api.OK},
		{"with another order before the later fee", with(two, bill(60, 2, 1, 6)), 41, 75, 96, api.OK},
		{"with another order before the later fee, which has its fee later", with(two, bill(71, 2, 1, 6)), 41, 75, 90, api.OK},
		{"no grace: from the day of the order", simple(0, 7, bill(40, 1, 2, 90)), 40, 40, 45, api.OK},
		{"no grace: on the last day", simple(0, 7, bill(4000, 1, 2, 90)), 4000, 4000, 45, api.OK},
		{"24 events beside it", with(simple(0, 7, slices.Repeat([]api.AccountEvent{paid(9, 1)}, 23)...), bill(40, 1, 2, 90)), 10, 70, 67, api.OK},
		{"more than a payment can be", simple(0, 7, order(40, 1, 1, line(1000, 0, 6, 0))), 0, 40, 91700000, api.OK},
		{"the largest: what is not due yet is paid, too, as long as nothing else is open", largest(), 3770, 4000, 17*20*917*99997 + 152828749, api.OK},
		{"the day -1", example(), -1, 310, 0, api.ErrAccountAsk},
		{"until the day 4001", example(), 301, 4001, 0, api.ErrAccountAsk},
		{"both too late", example(), 4001, 4001, 0, api.ErrAccountAsk},
		{"until the day -1", example(), 0, -1, 0, api.ErrAccountAsk},
		{"until the day before", example(), 310, 309, 0, api.ErrAccountAsk},
	} {
		if got, e := account.Enough(x.f, x.day, x.until); got != x.want || e != x.e {
			t.Errorf("Enough: %s: %d, %d, not %d, %d", x.name, got, e, x.want, x.e)
		}
	}
}

// P7.12, P7.1: an order of a day on which a later book has begun costs what its day says.
func TestP7_12PricesOfTheDay(t *testing.T) {
	for day, want := range map[int]int{100: 900, 260: 900, 300: 900, 301: 980, 450: 980} {
		f := api.AccountFile{Rack: sample.Rack(), Events: []api.AccountEvent{order(day, 1, 1, boots(1)), back(4000, 1, 0, 1)}}
		cost, e := account.Cost(f, 1)
		given, b := account.Back(f, 1, 0)
		if cost != want || e != api.OK || given != want || b != api.OK {
			t.Errorf("on %d: %d, %d, %d, %d, not %d", day, cost, e, given, b, want)
		}
	}
}
