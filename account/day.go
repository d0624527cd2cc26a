package account

import (
	"cmp"
	"iter"
	"slices"

	"wishbook/api"
	"wishbook/lists"
	"wishbook/spans"
)

// account is what was ordered and paid up to the end of a day.
type account struct {
	file
	day         int
	instalments []*api.AccountOpen // of all orders, those that are due first before all others, also those of which nothing is missing
	left        int                // over
	owed        int                // of fees
	fees        []int              // the day of each one
}

// on returns the account at the end of a day.
func (f file) on(day int) account {
	a := account{file: f}
	for d := range f.days(day) {
		a.live(d)
	}
	a.day = day
	return a
}

// cleared returns the first day from which on nothing is owed; false, if something is on the last day.
func (f file) cleared() (int, bool) {
	a := account{file: f}
	first, isOwed := 0, false
	for day := range f.days(limits[ofDays].High) {
		a.live(day)
		wasOwed := isOwed
		isOwed = a.owes() > 0
		if wasOwed && !isOwed {
			first = day
		}
	}
	return first, !isOwed
}

// days produces the days up to one on which something happens: there are events, or instalments that can cost a fee. On others nothing does, as there is something left over only while nothing is missing.
func (f file) days(until int) iter.Seq[int] {
	var list []int
	for _, e := range f.Events {
		list = append(list, e.Day)
	}
	for o := range f.orders() {
		for part := range o.Parts {
			list = append(list, dueOn(o, part)+f.Grace)
		}
	}
	slices.Sort(list)
	list = slices.Compact(list)
	return func(yield func(int) bool) {
		for _, day := range list {
			if day > until || !yield(day) {
				return
			}
		}
	}
}

// dueOn returns on which day an instalment of an order is due.
func dueOn(order api.AccountEvent, part int) int { return order.Day + api.AccountMonth*part }

// live does what a day does.
func (a *account) live(day int) {
	a.day = day
	for _, do := range steps() {
		do(a)
	}
}

// steps is what a day does, one after the other.
func steps() [4]func(*account) {
	return [...]func(*account){(*account).addOrders, (*account).takeBack, (*account).pay, (*account).charge}
}

func (a *account) addOrders() {
	for o := range a.events(api.AccountOrder, spans.One(a.day)) {
		cost := a.cost(o)
		for part := range o.Parts {
			cents := cost / o.Parts
			if part < cost%o.Parts {
				cents++
			}
			a.instalments = append(a.instalments, &api.AccountOpen{Order: o.Order, Part: part, Due: dueOn(o, part), Cents: cents})
		}
	}
	slices.SortFunc(a.instalments, soonest)
}

func (a *account) takeBack() {
orders:
	for o := range a.orders() {
		if a.back(o.Order, spans.One(a.day)) == (pieces{}) {
			continue orders
		}
		worth := a.worth(o, a.back(o.Order, spans.Below(a.day)), a.back(o.Order, spans.Below(a.day+1)))
		a.left += purse{worth, latest}.pay(a.instalmentsOf(o.Order))
	}
}

func (a *account) instalmentsOf(number int) []*api.AccountOpen {
	var list []*api.AccountOpen
	for _, i := range a.instalments {
		if i.Order == number {
			list = append(list, i)
		}
	}
	return list[:len(list):len(list)]
}

func (a *account) pay() {
	for e := range a.events(api.AccountPaid, spans.One(a.day)) {
		a.left += e.Cents
	}
	paid := spans.Least(a.left, a.owed)
	a.owed -= paid
	a.left = purse{a.left - paid, soonest}.pay(a.instalments)
}

func (a *account) charge() {
	for _, i := range a.open() {
		if i.Due+a.Grace == a.day {
			a.owed += a.Fee
			a.fees = append(a.fees, a.day)
		}
	}
}

// open returns all instalments of which something is missing, those that are due first before all others.
func (a *account) open() []api.AccountOpen {
	var list []api.AccountOpen
instalments:
	for _, i := range a.instalments {
		if i.Cents == 0 {
			continue instalments
		}
		list = append(list, *i)
	}
	return list[:len(list):len(list)]
}

func cents(i api.AccountOpen) int { return i.Cents }

func (a *account) owes() int { return lists.Sum(cents, a.open()...) + a.owed - a.left }

func (a *account) due() int {
	cents := a.owed
	for _, i := range a.open() {
		if i.Due <= a.day {
			cents += i.Cents
		}
	}
	return cents
}

// next returns the first day behind this one on which something is due, and how much; false, if there is none.
func (a *account) next() (due, cents int, ok bool) {
	for _, i := range a.open() {
		if i.Due > a.day && (!ok || i.Due == due) {
			due, cents, ok = i.Due, cents+i.Cents, true
		}
	}
	return due, cents, ok
}

// purse is some cents, and which one of two instalments is paid with them first.
type purse struct {
	cents int
	first func(one, other *api.AccountOpen) int
}

// pay pays instalments as far as the cents go, and returns what is left over.
func (p purse) pay(instalments []*api.AccountOpen) int {
	for _, i := range slices.SortedFunc(slices.Values(instalments), p.first) {
		paid := spans.Least(p.cents, i.Cents)
		i.Cents -= paid
		p.cents -= paid
	}
	return p.cents
}

func soonest(one, other *api.AccountOpen) int {
	return cmp.Or(cmp.Compare(one.Due, other.Due), cmp.Compare(one.Order, other.Order), cmp.Compare(one.Part, other.Part))
}

func latest(one, other *api.AccountOpen) int { return soonest(other, one) }
