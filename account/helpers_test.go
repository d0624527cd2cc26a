package account_test

import (
	"cmp"
	"math"
	"math/rand"
	"slices"
	"testing"

	"wishbook/account"
	"wishbook/api"
	"wishbook/book"
	"wishbook/sample"
)

var line = sample.Line

// The least numbers, and the greatest ones, and what lies around zero.
var extremes = []int{math.MinInt, math.MinInt + 1, -1, 0, 1, math.MaxInt - 1, math.MaxInt}

func order(day, number, parts int, lines ...api.BookLine) api.AccountEvent {
	return api.AccountEvent{Day: day, Kind: api.AccountOrder, Order: number, Parts: parts, Lines: lines}
}

func paid(day, cents int) api.AccountEvent {
	return api.AccountEvent{Day: day, Kind: api.AccountPaid, Cents: cents}
}

// back is some pieces of a line of an order that come back.
func back(day, number, line, many int) api.AccountEvent {
	return api.AccountEvent{Day: day, Kind: api.AccountReturn, Order: number, Line: line, Many: many}
}

func open(number, part, due, cents int) api.AccountOpen {
	return api.AccountOpen{Order: number, Part: part, Due: due, Cents: cents}
}

func opens(list ...api.AccountOpen) []api.AccountOpen { return list }

// example is the file of the chapter.
func example() api.AccountFile {
	return api.AccountFile{Rack: sample.Rack(), Grace: 5, Fee: 25, Events: []api.AccountEvent{
		order(270, 7, 3, line(13, 0, 40, 0), line(2, 2, 1, 2)),
		paid(280, 4000),
		back(310, 7, 0, 2),
		order(301, 8, 1, line(1, 0, 40, 0)),
	}}
}

// with returns a file with more events.
func with(f api.AccountFile, events ...api.AccountEvent) api.AccountFile {
	f.Events = slices.Concat(f.Events, events)
	return f
}

// simple is a file of a rack of which bills can be made: the size n+1 of the good costs 1 and n zeros.
func simple(grace, fee int, events ...api.AccountEvent) api.AccountFile {
	b := api.BookIssue{Days: sample.Span(0, api.MaxDay), Held: api.MaxDay}
	e := sample.Entry(1, 0, 1)
	for size, price := 1, 1; price <= api.BookPrice; size, price = size+1, price*10 {
		e.Sizes = append(e.Sizes, sample.Fit(size, 1, 1, price))
	}
	b.Entries = append(b.Entries, e)
	return api.AccountFile{Rack: api.BookRack{Goods: 1, Issues: []api.BookIssue{b}}, Grace: grace, Fee: fee, Events: events}
}

// bill is an order in a simple file that costs so many cents: a line for each digit that is not 0, the last digit first.
func bill(day, number, parts, cents int) api.AccountEvent {
	o := order(day, number, parts)
	for size := 1; cents > 0; size, cents = size+1, cents/10 {
		if cents%10 > 0 {
			o.Lines = append(o.Lines, line(cents%10, 0, size, 0))
		}
	}
	return o
}

// largest is a valid file with as many things as there can be, and the greatest numbers: each order costs 1833944980.
func largest() api.AccountFile {
	f := api.AccountFile{Rack: sample.Largest(), Grace: api.AccountGrace, Fee: api.AccountFee}
	for n := range api.AccountEvents {
		o := order(api.AccountDay-10*n, api.AccountNumber-n, api.AccountParts)
		for range api.BookLines {
			o.Lines = append(o.Lines, line(api.BookMany, api.BookGoods-1, api.BookSize, api.BookColours-1))
		}
		f.Events = append(f.Events, o)
	}
	return f
}

// clone copies a file wholly, and leaves free room behind each list, with what no valid file has.
func clone(f api.AccountFile) api.AccountFile {
	f.Rack = sample.Copy(f.Rack)
	f.Events = sample.Roomy(f.Events, api.AccountEvent{Day: -1})
	for i := range f.Events {
		f.Events[i].Lines = sample.Roomy(f.Events[i].Lines, line(-1, -1, -1, -1))
	}
	return f
}

// Days of random files: orders are written, and all that can happen has happened.
const (
	lastOrder = 240
	lastDay   = 700
)

// someRack returns some rack whose prices change while orders are written.
func someRack(d sample.Dice) api.BookRack {
	r := d.Rack()
	for i := range r.Issues {
		b := &r.Issues[i]
		b.Days = sample.Span(b.Days.Low*lastOrder/sample.LastDay, b.Days.High*lastOrder/sample.LastDay)
		b.Held = b.Held * lastOrder / sample.LastDay
	}
	return r
}

// someLines returns some lines that have a sum on a day: none, if nothing has a price.
func someLines(d sample.Dice, r api.BookRack, day int) []api.BookLine {
	var items []api.BookItem
	for good := range r.Goods {
		for size := 1; size <= sample.LastSize; size++ {
			for colour := range api.BookColours {
				item := sample.Item(good, size, colour)
				if _, e := book.Price(r, day, item); e == api.OK {
					items = append(items, item)
				}
			}
		}
	}
	var lines []api.BookLine
	for range min(1+d(4), len(items)) {
		many := 1 + d(6)
		if d(4) == 0 {
			many = 1 + d(40)
		}
		lines = append(lines, api.BookLine{Item: items[d(len(items))], Many: many})
	}
	return lines
}

// someReturns returns some returns of an order: now and then of all its pieces.
func someReturns(d sample.Dice, o api.AccountEvent) []api.AccountEvent {
	var list []api.AccountEvent
	for k, l := range o.Lines {
		for left := l.Many; left > 0 && d(2) == 0; {
			many := 1 + d(left)
			left -= many
			list = append(list, back(o.Day+d(100), o.Order, k, many))
		}
	}
	return list
}

// someFile returns some valid file of at most so many orders, its events in any order.
func someFile(d sample.Dice, orders int) api.AccountFile {
	f := api.AccountFile{Rack: someRack(d), Grace: []int{0, 1, 5, 29, 30, 31, 60}[d(7)], Fee: d(30)}
	number, cost := 0, 0
	var all []api.AccountEvent
	for range d(orders + 1) {
		day := d(lastOrder)
		number += 1 + d(9)
		o := order(day, number, 1+d(1+d(api.AccountParts)), someLines(d, f.Rack, day)...)
		if sum, e := book.Sum(f.Rack, day, o.Lines); e == api.OK && sum > 0 {
			cost += sum
			all = append(append(all, o), someReturns(d, o)...)
		}
	}
	for range d(8) {
		all = append(all, paid(d(lastOrder+d(lastOrder)), 1+d(1+cost/3)))
	}
	all = all[:min(len(all), api.AccountEvents-1)]
	for _, i := range d.Order(len(all)) {
		f.Events = append(f.Events, all[i])
	}
	return f
}

// eachFile does something with the example, and with many random files, always the same ones.
func eachFile(t *testing.T, many, orders int, do func(d sample.Dice, f api.AccountFile)) {
	t.Helper()
	rnd := rand.New(rand.NewSource(7))
	do(rnd.Intn, example())
	for range many {
		f := someFile(rnd.Intn, orders)
		if e := account.Check(f); e != api.OK {
			t.Fatalf("Check of the valid file %v: %d", f, e)
		}
		do(rnd.Intn, f)
	}
}

// plainCost is what so many pieces of a line cost, piece by piece.
func plainCost(f api.AccountFile, day int, l api.BookLine, many int) int {
	price, _ := book.Price(f.Rack, day, l.Item)
	cents := 0
	for piece := 1; piece <= many; piece++ {
		if piece%api.BookDozen != 0 {
			cents += price
		}
	}
	return cents
}

func plainSum(f api.AccountFile, o api.AccountEvent) int {
	cents := 0
	for _, l := range o.Lines {
		cents += plainCost(f, o.Day, l, l.Many)
	}
	return cents
}

// events is all events of a kind.
func events(f api.AccountFile, kind int) []api.AccountEvent {
	return slices.DeleteFunc(slices.Clone(f.Events), func(e api.AccountEvent) bool { return e.Kind != kind })
}

// told is what is so at the end of a day.
type told struct {
	owed    int // of fees
	left    int // over
	fees    int
	missing []api.AccountOpen // all instalments, also those that are paid
	back    map[[2]int]int    // how many pieces of each line
}

// plainDays is what is so at the end of each day, from 0 on: day by day, step by step.
func plainDays(f api.AccountFile, until int) []told {
	var days []told
	now := told{back: map[[2]int]int{}}
	orders, payments, returns := events(f, api.AccountOrder), events(f, api.AccountPaid), events(f, api.AccountReturn)
	for day := range until + 1 {
		for _, o := range orders {
			if o.Day == day {
				now.missing = append(now.missing, plainParts(f, o)...)
			}
		}
		for _, e := range returns {
			if e.Day == day {
				now.takeBack(f, e)
			}
		}
		for _, e := range payments {
			if e.Day == day {
				now.left += e.Cents
			}
		}
		now.pay()
		for _, i := range now.missing {
			if i.Due == day-f.Grace && i.Cents > 0 {
				now.fees++
				now.owed += f.Fee
			}
		}
		days = append(days, now)
		now.missing = slices.Clone(now.missing)
	}
	return days
}

// plainParts deals what an order costs out to its instalments, cent by cent.
func plainParts(f api.AccountFile, o api.AccountEvent) []api.AccountOpen {
	list := make([]api.AccountOpen, o.Parts)
	for part := range list {
		list[part] = open(o.Order, part, o.Day+30*part, 0)
	}
	for cent := range plainSum(f, o) {
		list[cent%o.Parts].Cents++
	}
	return list
}

// takeBack takes what a return is worth from the instalments of its order, the last one first.
func (now *told) takeBack(f api.AccountFile, e api.AccountEvent) {
	orders := events(f, api.AccountOrder)
	o := orders[slices.IndexFunc(orders, func(o api.AccountEvent) bool { return o.Order == e.Order })]
	l := o.Lines[e.Line]
	has := l.Many - now.back[[2]int{e.Order, e.Line}]
	now.back[[2]int{e.Order, e.Line}] += e.Many
	worth := plainCost(f, o.Day, l, has) - plainCost(f, o.Day, l, has-e.Many)
	for part := o.Parts - 1; part >= 0; part-- {
		i := slices.IndexFunc(now.missing, func(i api.AccountOpen) bool { return i.Order == o.Order && i.Part == part })
		less := min(worth, now.missing[i].Cents)
		now.missing[i].Cents -= less
		worth -= less
	}
	now.left += worth
}

// pay pays fees, then one instalment after the other.
func (now *told) pay() {
	for now.left > 0 && now.owed > 0 {
		now.left--
		now.owed--
	}
	for now.left > 0 {
		list := now.open()
		if len(list) == 0 {
			return
		}
		i := slices.Index(now.missing, list[0])
		less := min(now.left, list[0].Cents)
		now.missing[i].Cents -= less
		now.left -= less
	}
}

// open is all instalments of which something is missing, in their order.
func (now *told) open() []api.AccountOpen {
	list := slices.DeleteFunc(slices.Clone(now.missing), func(i api.AccountOpen) bool { return i.Cents == 0 })
	slices.SortFunc(list, func(one, other api.AccountOpen) int {
		return slices.Compare([]int{one.Due, one.Order, one.Part}, []int{other.Due, other.Order, other.Part})
	})
	return list
}

func sum(list []api.AccountOpen) int {
	cents := 0
	for _, i := range list {
		cents += i.Cents
	}
	return cents
}

// dueUntil is those instalments that are due on a day, or before it.
func dueUntil(list []api.AccountOpen, day int) []api.AccountOpen {
	return slices.DeleteFunc(slices.Clone(list), func(i api.AccountOpen) bool { return i.Due > day })
}

func (now *told) owes() int { return sum(now.open()) + now.owed - now.left }

func (now *told) due(day int) int { return sum(dueUntil(now.open(), day)) + now.owed }

// next is the next day on which something is due, and how much; 0, if there is none.
func (now *told) next(day int) (due, cents int) {
	later := slices.DeleteFunc(now.open(), func(i api.AccountOpen) bool { return i.Due <= day })
	for _, i := range later {
		if due == 0 || i.Due < due {
			due = i.Due
		}
	}
	for _, i := range later {
		if i.Due == due {
			cents += i.Cents
		}
	}
	return due, cents
}

// plainFees is how many fees there are from a day to another one.
func plainFees(f api.AccountFile, day, until int) int {
	days := plainDays(f, until)
	if day == 0 {
		return days[until].fees
	}
	return days[until].fees - days[day-1].fees
}

// plainEnough is the first number of cents, from 0 on, with which there is no fee.
func plainEnough(f api.AccountFile, day, until int) int {
	for cents := 0; ; cents++ {
		if plainFees(with(f, paid(day, cents)), day, until) == 0 {
			return cents
		}
	}
}

// fees is how many fees there are from a day to another one, as Fees tells it.
func fees(t *testing.T, f api.AccountFile, day, until int) int {
	t.Helper()
	all, e := account.Fees(f, until)
	before := 0
	if day > 0 && e == api.OK {
		before, e = account.Fees(f, day-1)
	}
	if e != api.OK {
		t.Fatalf("Fees of %v, from %d to %d: %d", f, day, until, e)
	}
	return all - before
}

// byNumber is orders, the least number first.
func byNumber(orders []api.AccountEvent) []api.AccountEvent {
	return slices.SortedFunc(slices.Values(orders), func(one, other api.AccountEvent) int { return cmp.Compare(one.Order, other.Order) })
}
