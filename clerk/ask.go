package clerk

import (
	"strconv"
	"strings"

	"wishbook/account"
	"wishbook/api"
	"wishbook/book"
	"wishbook/claim"
	"wishbook/spans"
)

// join puts an answer together.
func join(parts ...string) string {
	if len(parts) == 0 {
		return nothing
	}
	return strings.Join(parts, blank)
}

// numbers puts an answer together of numbers alone.
func numbers(list ...int) string {
	parts := make([]string, 0, len(list))
	for _, n := range list {
		parts = append(parts, strconv.Itoa(n))
	}
	return join(parts...)
}

func (l *line) price() string { return numbers(l.mustHavePrice(l.item())) }

// mustHavePrice returns what an item costs today, or leaves the line if it has no price.
func (l *line) mustHavePrice(item api.BookItem) int {
	return sure(book.Price(l.setup.Rack, l.day, item))
}

func (l *line) means() string {
	number := l.number['N']
	must(spans.Has(limits[ofNumbers], number), api.ErrRange)
	var names []string
	for _, meant := range sure(book.Means(l.setup.Rack, spans.One(l.day), number)) {
		names = append(names, l.setup.Goods[meant.Good])
	}
	return join(names...)
}

func (l *line) list() string {
	who := l.customer()
	return join(numbers(len(l.lists[who])), l.cost(who))
}

// cost returns what a customer's list costs today, as an answer.
func (l *line) cost(who int) string {
	sum, e := book.Sum(l.setup.Rack, l.day, l.lists[who])
	if e != api.OK {
		return nothing
	}
	return numbers(sum)
}

func (l *line) owes() string { return numbers(sure(account.Owes(l.account(), l.day))) }

func (l *line) due() string { return numbers(sure(account.Due(l.account(), l.day))) }

func (l *line) fees() string { return numbers(sure(account.Fees(l.account(), l.day))) }

func (l *line) open() string {
	var list []int
	for _, o := range sure(account.Open(l.account(), l.day)) {
		list = append(list, o.Order, o.Part, o.Due, o.Cents)
	}
	return numbers(list...)
}

func (l *line) next() string {
	day, cents, e := account.Next(l.account(), l.day)
	must(e == api.OK, e)
	return numbers(day, cents)
}

func (l *line) enough() string {
	file, until := l.account(), l.number['N']
	must(l.isAhead(until), api.ErrRange)
	return numbers(sure(account.Enough(file, l.day, until)))
}

func (l *line) which() string { return numbers(sure(claim.Which(l.desk(), l.askedBox()))...) }

func (l *line) told() string { return numbers(sure(claim.Told(l.desk(), l.askedBox()))) }

// askedBox returns the box that is asked about, or leaves the line if there is none.
func (l *line) askedBox() int {
	box := l.number['N']
	must(spans.Has(spans.Below(len(l.boxes)), box), api.ErrRange)
	return box
}

func (l *line) returned() string {
	surely, perhaps, e := claim.Back(l.desk())
	must(e == api.OK, e)
	return join(numbers(surely...), "/", numbers(perhaps...))
}

func (l *line) worth() string {
	cents := sure(claim.Worth(l.desk()))
	return numbers(cents.Low, cents.High)
}

func (l *line) today() string { return numbers(l.day) }
