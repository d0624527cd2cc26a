package account_test

import (
	"reflect"
	"slices"
	"testing"

	"wishbook/account"
	"wishbook/api"
	"wishbook/book"
	"wishbook/sample"
)

// onDay is what is told of a day. Of Next it is the day and the cents, and nothing, if there is none.
type onDay struct {
	owes, due, fees int
	open            []api.AccountOpen
	next            [2]int
}

func tellDay(t *testing.T, f api.AccountFile, day int) onDay {
	t.Helper()
	owes, e := account.Owes(f, day)
	due, g := account.Due(f, day)
	fees, h := account.Fees(f, day)
	list, k := account.Open(f, day)
	next, cents, l := account.Next(f, day)
	if e != api.OK || g != api.OK || h != api.OK || k != api.OK || l != api.OK && l != api.ErrNone {
		t.Fatalf("of %v, on %d: %d, %d, %d, %d, %d", f, day, e, g, h, k, l)
	}
	return onDay{owes, due, fees, slices.Concat(opens(), list), [2]int{next, cents}}
}

// someDays is some days of a file: those on which something happens, and those before and behind them, and others.
func someDays(d sample.Dice, f api.AccountFile) []int {
	list := []int{0, d(lastDay), lastDay}
	for _, e := range f.Events {
		list = append(list, e.Day-1, e.Day, e.Day+1)
		for part := range e.Parts {
			due := e.Day + 30*part
			list = append(list, due-1, due, due+f.Grace-1, due+f.Grace, due+f.Grace+1)
		}
	}
	slices.Sort(list)
	return slices.DeleteFunc(slices.Compact(list), func(day int) bool { return day < 0 || day > lastDay })
}

// P7.1: what orders cost, and what lines give back, as the definitions say.
func TestP7_1CostsAndBacks(t *testing.T) {
	some := 0
	eachFile(t, 400, 5, func(d sample.Dice, f api.AccountFile) {
		came := map[[2]int]int{}
		for _, e := range events(f, api.AccountReturn) {
			came[[2]int{e.Order, e.Line}] += e.Many
		}
		for _, o := range events(f, api.AccountOrder) {
			if got, e := account.Cost(f, o.Order); got != plainSum(f, o) || e != api.OK {
				t.Fatalf("Cost of %v, %d: %d, %d, not %d", f, o.Order, got, e, plainSum(f, o))
			}
			for k := range api.BookLines {
				got, e := account.Back(f, o.Order, k)
				if k >= len(o.Lines) {
					if got != 0 || e != api.ErrNone {
						t.Fatalf("Back of %v, %d %d: %d, %d", f, o.Order, k, got, e)
					}
					continue
				}
				l := o.Lines[k]
				many := came[[2]int{o.Order, k}]
				if want := plainCost(f, o.Day, l, l.Many) - plainCost(f, o.Day, l, l.Many-many); got != want || e != api.OK {
					t.Fatalf("Back of %v, %d %d: %d, %d, not %d", f, o.Order, k, got, e, want)
				}
				if 0 < many && many < l.Many {
					some++
				}
			}
		}
	})
	if some < 200 {
		t.Errorf("only %d lines of which some pieces came back", some)
	}
}

// P7.2, P7.3: what is told of each day, as the definitions say, day by day.
func TestP7_2DayByDay(t *testing.T) {
	var met struct{ fees, left, owed, settled int }
	eachFile(t, 300, 5, func(d sample.Dice, f api.AccountFile) {
		plain := plainDays(f, lastDay)
		for _, day := range someDays(d, f) {
			now := plain[day]
			due, cents := now.next(day)
			want := onDay{now.owes(), now.due(day), now.fees, slices.Concat(opens(), now.open()), [2]int{due, cents}}
			if got := tellDay(t, f, day); !reflect.DeepEqual(got, want) {
				t.Fatalf("of %v, on %d: %v, not %v", f, day, got, want)
			}
		}
		now := plain[lastDay]
		met.fees += min(1, now.fees)
		met.left += min(1, now.left)
		met.owed += min(1, len(now.open()))
		if now.fees > 0 && now.left > 0 {
			met.settled++
		}
		if got := tellDay(t, f, api.AccountDay); got.owes != now.owes() || got.fees != now.fees {
			t.Fatalf("of %v, on the last day: %v, not %v", f, got, now)
		}
	})
	if met.fees < 50 || met.left < 50 || met.owed < 50 || met.settled < 20 {
		t.Errorf("too few files of some kind: %v", met)
	}
}

// P7.4, P7.11: from the day on which it is cleared on nothing is owed; on the day before it something was.
func TestP7_11Clear(t *testing.T) {
	var met struct{ never, always, once, again int }
	eachFile(t, 300, 4, func(d sample.Dice, f api.AccountFile) {
		want, again := 0, 0
		plain := plainDays(f, lastDay)
		for day, now := range plain {
			if now.owes() > 0 {
				if want < day {
					again++
				}
				want = day + 1
			}
		}
		got, e := account.Clear(f)
		switch {
		case want > lastDay:
			met.never++
			if got != 0 || e != api.ErrNone {
				t.Fatalf("Clear of %v: %d, %d, not none", f, got, e)
			}
			return
		case want == 0:
			met.always++
		case again > 1:
			met.again++
		default:
			met.once++
		}
		if got != want || e != api.OK {
			t.Fatalf("Clear of %v: %d, %d, not %d", f, got, e, want)
		}
		if got == 0 {
			return
		}
		before, _ := account.Owes(f, got-1)
		now, _ := account.Owes(f, got)
		if before <= 0 || now > 0 {
			t.Fatalf("Clear of %v: %d, but %d, %d", f, got, before, now)
		}
	})
	if met.never < 20 || met.always < 20 || met.once < 20 || met.again < 5 {
		t.Errorf("too few files of some kind: %v", met)
	}
}

// smallFile is a file in which little is owed.
func smallFile(d sample.Dice) api.AccountFile {
	f := simple([]int{0, 1, 5, 30}[d(4)], d(4))
	for n := range 1 + d(3) {
		o := bill(d(70), 9-n, 1+d(3), 1+d(30))
		f.Events = append(f.Events, o)
		if d(2) == 0 {
			k := d(len(o.Lines))
			f.Events = append(f.Events, back(o.Day+d(50), o.Order, k, 1+d(o.Lines[k].Many)))
		}
	}
	for range d(4) {
		f.Events = append(f.Events, paid(d(100), 1+d(20)))
	}
	return f
}

// P7.5: the least number of cents, of all from 0 on.
func TestP7_5AllNumbersOfCents(t *testing.T) {
	some := 0
	eachFile(t, 150, 0, func(d sample.Dice, _ api.AccountFile) {
		f := smallFile(d)
		days := d.Span(0, 160)
		want := plainEnough(f, days.Low, days.High)
		some += min(1, want)
		if got, e := account.Enough(f, days.Low, days.High); got != want || e != api.OK {
			t.Fatalf("Enough of %v, from %d to %d: %d, %d, not %d", f, days.Low, days.High, got, e, want)
		}
	})
	if some < 50 {
		t.Errorf("only %d times something must be paid", some)
	}
}

// P7.10: with as much, or more, paid on the day there is no fee until the other day; with a cent less there is one.
func TestP7_10ThePaymentThatIsEnough(t *testing.T) {
	some := map[bool]int{}
	eachFile(t, 300, 5, func(d sample.Dice, f api.AccountFile) {
		days := d.Span(0, 1+d(lastDay))
		cents, e := account.Enough(f, days.Low, days.High)
		some[cents > 0]++
		if e != api.OK || cents < 0 {
			t.Fatalf("Enough of %v, %v: %d, %d", f, days, cents, e)
		}
		for _, more := range []int{0, 1, 1 + d(9), 1 + d(cents+1), 500000} {
			if cents+more == 0 {
				continue
			}
			if n := fees(t, with(f, paid(days.Low, cents+more)), days.Low, days.High); n != 0 {
				t.Fatalf("Enough of %v, %v: %d, but with %d there are %d fees", f, days, cents, cents+more, n)
			}
		}
		for _, less := range []int{1, 1 + d(cents+1)} {
			if less > cents {
				continue
			}
			g := f
			if less < cents {
				g = with(f, paid(days.Low, cents-less))
			}
			if n := fees(t, g, days.Low, days.High); n == 0 {
				t.Fatalf("Enough of %v, %v: %d, but with %d there are no fees", f, days, cents, cents-less)
			}
		}
		if n := fees(t, f, days.Low, days.High); (n == 0) != (cents == 0) {
			t.Fatalf("Enough of %v, %v: %d, but there are %d fees", f, days, cents, n)
		}
	})
	if some[true] < 50 || some[false] < 50 {
		t.Errorf("files in which something must be paid, or not: %v", some)
	}
}

// P7.7: what is owed is what was ordered, and all fees, less what was paid and what came back; what is due, and what is open, is a part of it.
func TestP7_7ToTheCent(t *testing.T) {
	eachFile(t, 150, 5, func(d sample.Dice, f api.AccountFile) {
		for _, day := range someDays(d, f) {
			now := tellDay(t, f, day)
			want := f.Fee * now.fees
			past := f
			past.Events = slices.DeleteFunc(slices.Clone(f.Events), func(e api.AccountEvent) bool { return e.Day > day })
			for _, e := range past.Events {
				if e.Kind == api.AccountPaid {
					want -= e.Cents
				}
				if e.Kind != api.AccountOrder {
					continue
				}
				cost, _ := account.Cost(past, e.Order)
				want += cost
				for k := range e.Lines {
					given, _ := account.Back(past, e.Order, k)
					want -= given
				}
			}
			if now.owes != want {
				t.Fatalf("of %v, on %d: %d is owed, not %d", f, day, now.owes, want)
			}
			part := max(0, now.owes)
			if now.due < 0 || now.due > part || sum(now.open) > part || now.owes > sum(now.open)+f.Fee*now.fees {
				t.Fatalf("of %v, on %d: %v", f, day, now)
			}
			behind := now.open[len(dueUntil(now.open, day)):]
			if now.owes > 0 && now.due+sum(behind) != now.owes {
				t.Fatalf("of %v, on %d: %v", f, day, now)
			}
		}
	})
}

// P7.8: in whatever order events are told, all is told alike; what comes later changes nothing.
func TestP7_8WhateverOrder(t *testing.T) {
	eachFile(t, 50, 5, func(d sample.Dice, f api.AccountFile) {
		g := f
		g.Events = nil
		for _, i := range d.Order(len(f.Events)) {
			g.Events = append(g.Events, f.Events[i])
		}
		number := 1
		if orders := byNumber(events(f, api.AccountOrder)); len(orders) > 0 {
			number = orders[0].Order
		}
		for _, day := range []int{d(lastOrder), d(lastDay), api.AccountDay} {
			q := question{number, d(3), day, day + d(api.AccountDay-day+1)}
			if one, other := askAll(f, q), askAll(g, q); !reflect.DeepEqual(one, other) {
				t.Fatalf("of %v, %v: %v, but in another order %v", f, q, one, other)
			}
		}
		for _, day := range someDays(d, f) {
			past := f
			past.Events = slices.DeleteFunc(slices.Clone(f.Events), func(e api.AccountEvent) bool { return e.Day > day })
			one, other := tellDay(t, f, day), tellDay(t, past, day)
			if !reflect.DeepEqual(one, other) {
				t.Fatalf("of %v, on %d: %v, but without what comes later %v", f, day, one, other)
			}
			all, e := account.Enough(f, 0, day)
			some, g := account.Enough(past, 0, day)
			if all != some || e != api.OK || g != api.OK {
				t.Fatalf("Enough of %v, until %d: %d, %d, but without what comes later %d, %d", f, day, all, e, some, g)
			}
		}
	})
}

// P7.9: the instalments of an order are together what it costs, and differ by a cent at most; what lines give back.
func TestP7_9Instalments(t *testing.T) {
	eachFile(t, 300, 5, func(d sample.Dice, f api.AccountFile) {
		for _, o := range events(f, api.AccountOrder) {
			for parts := 1; parts <= api.AccountParts; parts++ {
				o.Parts = parts
				f.Events = []api.AccountEvent{o}
				cost, _ := account.Cost(f, o.Order)
				list, e := account.Open(f, o.Day)
				if e != api.OK || sum(list) != cost {
					t.Fatalf("Open of %v: %v, %d, for %d", f, list, e, cost)
				}
				for k := range parts {
					cents := cost / parts
					if k < cost-cost/parts*parts {
						cents++
					}
					want := open(o.Order, k, o.Day+30*k, cents)
					if cents > 0 && list[k] != want || cents == 0 && k < len(list) {
						t.Fatalf("Open of %v: %v, not %v", f, list, want)
					}
				}
			}
			checkBacks(t, d, f, o)
		}
	})
}

// checkBacks gives the pieces of each line back, a few each time.
func checkBacks(t *testing.T, d sample.Dice, f api.AccountFile, o api.AccountEvent) {
	t.Helper()
	for k, l := range o.Lines {
		cost, _ := book.Sum(f.Rack, o.Day, o.Lines[k:k+1])
		f.Events = []api.AccountEvent{o}
		before := 0
		for left := l.Many; left > 0; {
			many := 1 + d(left)
			if len(f.Events) == api.AccountEvents-1 {
				many = left
			}
			left -= many
			f.Events = append(f.Events, back(o.Day+d(9), o.Order, k, many))
			given, e := account.Back(f, o.Order, k)
			if given < before || given > cost || left == 0 && given != cost || e != api.OK {
				t.Fatalf("Back of %v, %d %d: %d, %d, before %d, of %d", f, o.Order, k, given, e, before, cost)
			}
			before = given
		}
	}
}

// noMoreFees checks that up to no day a file has more fees than another one, and reports whether it has fewer.
func noMoreFees(t *testing.T, d sample.Dice, name string, than, f api.AccountFile) bool {
	t.Helper()
	fewer := false
	days := append(someDays(d, than), someDays(d, f)...)
	slices.Sort(days)
	for _, day := range slices.Compact(days) {
		before, e := account.Fees(than, day)
		now, g := account.Fees(f, day)
		if now > before || e != api.OK || g != api.OK {
			t.Fatalf("%s, until %d: %d fees, not %d: %v, %v", name, day, now, before, f, than)
		}
		fewer = fewer || now < before
	}
	return fewer
}

// P7.11: whoever pays more has no more fees; with more Grace there are no more.
func TestP7_11PaysMore(t *testing.T) {
	fewer := map[string]int{}
	eachFile(t, 80, 5, func(d sample.Dice, f api.AccountFile) {
		if noMoreFees(t, d, "paid once more", f, with(f, paid(d(lastOrder), 1+d(300)))) {
			fewer["payments"]++
		}
		for i, e := range f.Events {
			if e.Kind == api.AccountPaid {
				g := clone(f)
				g.Events[i].Cents += 1 + d(100)
				if noMoreFees(t, d, "paid more", f, g) {
					fewer["cents"]++
				}
			}
		}
		g := f
		g.Grace += d(61 - g.Grace)
		if noMoreFees(t, d, "more grace", f, g) {
			fewer["grace"]++
		}
	})
	if fewer["payments"] < 20 || fewer["cents"] < 20 || fewer["grace"] < 20 {
		t.Errorf("too seldom there were fewer fees: %v", fewer)
	}
}

// P7.11: whoever pays sooner has no more fees, as far as no order is written in between: what was paid for instalments that are not due yet stays there, and an order of a later day can have some that are due before.
func TestP7_11PaysSooner(t *testing.T) {
	fewer := 0
	eachFile(t, 120, 5, func(d sample.Dice, f api.AccountFile) {
		for i, e := range f.Events {
			first := 0
			for _, o := range events(f, api.AccountOrder) {
				if o.Day <= e.Day {
					first = max(first, o.Day)
				}
			}
			if e.Kind == api.AccountPaid && first < e.Day {
				g := clone(f)
				g.Events[i].Day = first + d(e.Day-first)
				if noMoreFees(t, d, "paid sooner", f, g) {
					fewer++
				}
			}
		}
	})
	if fewer < 10 {
		t.Errorf("only %d times there were fewer fees", fewer)
	}
}

// P7.12: a book whose prices begin on a later day changes nothing of orders that were written before.
func TestP7_12LaterBooks(t *testing.T) {
	changed := 0
	eachFile(t, 100, 5, func(d sample.Dice, f api.AccountFile) {
		last := 0
		for _, o := range events(f, api.AccountOrder) {
			last = max(last, o.Day)
		}
		if len(f.Rack.Issues) == api.BookIssues {
			f.Rack.Issues = f.Rack.Issues[:api.BookIssues-1]
		}
		if account.Check(f) != api.OK {
			return
		}
		later, sooner := clone(f), clone(f)
		b := clone(f).Rack.Issues[0]
		for _, e := range b.Entries {
			for k := range e.Sizes {
				e.Sizes[k].Price = 1
			}
		}
		b.Days, b.Held = sample.Span(last+1, api.MaxDay), api.MaxDay
		later.Rack.Issues = append(later.Rack.Issues, b)
		b.Days.Low = 0
		sooner.Rack.Issues = append(sooner.Rack.Issues, b)
		for _, o := range append(events(f, api.AccountOrder), order(0, 1, 1)) {
			q := question{o.Order, d(3), d(lastDay), lastDay}
			one, other := askAll(f, q), askAll(later, q)
			if !reflect.DeepEqual(one, other) {
				t.Fatalf("of %v, %v: %v, but with a later book %v", f, q, one, other)
			}
			if !reflect.DeepEqual(one, askAll(sooner, q)) {
				changed++
			}
		}
	})
	if changed < 50 {
		t.Errorf("a book that is not later changed only %d answers", changed)
	}
}

func usual() question { return question{7, 0, 310, 335} }

// P7.6: arguments are only read, also where there is free room behind them.
func TestP7_6ArgumentsAreOnlyRead(t *testing.T) {
	f := clone(example())
	if a := askAll(f, usual()); a.errnos != (errnos{clear: api.ErrNone}) || a.back != 900 || a.enough != 7055 {
		t.Fatalf("other answers: %v", a)
	}
	if !reflect.DeepEqual(f, clone(example())) {
		t.Errorf("an argument was changed: %v", f)
	}
	if f.Events[:5][4].Day != -1 || f.Events[0].Lines[:3][2].Many != -1 || f.Rack.Issues[:3][2].Held != -1 {
		t.Errorf("something was written behind a list: %v", f)
	}
}

// P7.6: arguments are not retained, and results are new memory.
func TestP7_6ResultsAreNewMemory(t *testing.T) {
	f := clone(example())
	want, got := askAll(f, usual()), askAll(f, usual())
	clear(got.open[:cap(got.open)])
	if again := askAll(f, usual()); !reflect.DeepEqual(again, want) {
		t.Errorf("after a result was changed: %v, not %v", again, want)
	}
	held := askAll(f, usual())
	f.Events[1].Cents, f.Events[0].Lines[0].Many, f.Rack.Issues[0].Entries[0].Sizes[0].Price = 1, 14, 901
	if !reflect.DeepEqual(held, want) {
		t.Errorf("after the arguments were changed: %v, not %v", held, want)
	}
	if again := askAll(f, usual()); again.cost != 901*13+100 || again.owes == want.owes || reflect.DeepEqual(again, want) {
		t.Errorf("a changed file answers as before: %v", again)
	}
}

// P1: whatever the arguments are, each function returns, and with an error all else is zero.
func TestP1_AllArguments(t *testing.T) {
	files := []api.AccountFile{{}, example(), largest(), simple(0, 0)}
	for _, n := range extremes {
		for _, m := range extremes {
			for _, do := range []func(f *api.AccountFile){
				numbers(n, m), last(order(n, m, 1, boots(1))), last(order(301, 8, n, boots(m))), last(order(n, 8, m, line(n, m, n, m))), last(order(301, n, m)),
				last(paid(n, m)), last(back(n, 7, 0, m)), last(back(310, n, m, 1)), last(back(310, 7, n, m)), last(api.AccountEvent{Kind: n, Day: m, Order: 7, Many: 1, Cents: 1}),
				func(f *api.AccountFile) { f.Rack.Goods, f.Rack.Issues[0].Held = n, m },
			} {
				files = append(files, changed(do))
			}
		}
	}
	for _, f := range files {
		for _, n := range extremes {
			for _, q := range []question{{n, 0, n, 335}, {7, n, 310, n}, {n, n, n, n}, {99, 19, 4000, 4000}} {
				a := askAll(f, q)
				if !a.areZero() || a.check != api.OK && (a.check != api.ErrAccount || a.errnos != all(api.ErrAccount)) {
					t.Fatalf("of %v, %v: %v", f, q, a)
				}
			}
		}
	}
}

// P1: a file with very many events, and an order with very many lines.
func TestP1_LongLists(t *testing.T) {
	for _, e := range []api.AccountEvent{paid(1, 1), order(301, 9, 1, boots(1)), back(310, 7, 0, 1)} {
		f := example()
		f.Events = slices.Repeat([]api.AccountEvent{e}, 1<<18)
		if a := askAll(f, usual()); a.check != api.ErrAccount || !a.areZero() {
			t.Errorf("%v very often: %v", e, a)
		}
	}
	f := changed(last(order(301, 8, 1, slices.Repeat([]api.BookLine{boots(1)}, 1<<20)...)))
	if a := askAll(f, usual()); a.check != api.ErrAccount || !a.areZero() {
		t.Errorf("very many lines: %v", a)
	}
}

// P2: the same arguments have the same result, whatever was called before.
func TestP2_SameArgumentsSameResult(t *testing.T) {
	want := askAll(example(), usual())
	eachFile(t, 200, 5, func(d sample.Dice, f api.AccountFile) {
		q := question{1 + d(30), d(4), d(lastDay), d(lastDay)}
		one, other := askAll(f, q), askAll(clone(f), q)
		if !one.areZero() || !reflect.DeepEqual(one, other) {
			t.Fatalf("of %v, %v: %v, then %v", f, q, one, other)
		}
		if got := askAll(example(), usual()); !reflect.DeepEqual(got, want) {
			t.Fatalf("of the example after %v: %v, not %v", f, got, want)
		}
	})
}
