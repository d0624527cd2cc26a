package clerk

import (
	"wishbook/api"
	"wishbook/book"
	"wishbook/claim"
	"wishbook/spans"
)

func (l *line) wait() string {
	day := l.number['N']
	must(l.isAhead(day), api.ErrRange)
	l.day = day
	return l.today()
}

func (l *line) add() string {
	who := l.customer()
	wanted := api.BookLine{Item: l.item(), Many: l.number['O']}
	must(spans.Has(limits[ofPieces], wanted.Many), api.ErrRange)
	l.mustHavePrice(wanted.Item)
	must(len(l.lists[who]) < api.BookLines, api.ErrFull)
	l.lists[who] = with(l.lists[who], wanted)
	return l.cost(who)
}

func (l *line) order() string {
	who, parts := l.customer(), l.number['P']
	must(spans.Has(limits[ofParts], parts), api.ErrRange)
	must(len(l.lists[who]) > 0, api.ErrClerkEmpty)
	costs := sure(book.Sum(l.setup.Rack, l.day, l.lists[who]))
	number := l.ordered() + 1
	must(number <= api.AccountNumber, api.ErrFull) // never so, as long as 4 customers have at most 24 events each
	l.note(who, api.AccountEvent{Kind: api.AccountOrder, Order: number, Parts: parts, Lines: l.lists[who]})
	l.lists[who] = nil
	return numbers(number, costs)
}

func (l *line) pay() string {
	who, cents := l.customer(), l.number['N']
	must(spans.Has(limits[ofCents], cents), api.ErrRange)
	l.note(who, api.AccountEvent{Kind: api.AccountPaid, Cents: cents})
	return l.owes()
}

func (l *line) takeBack() string {
	who := l.customer()
	back := api.AccountEvent{Kind: api.AccountReturn, Order: l.number['N'], Line: l.number['M'], Many: l.number['O']}
	left, ok := l.left(who, back.Order, back.Line)
	must(ok, api.ErrNone)
	must(spans.Has(api.Span{Low: 1, High: left}, back.Many), api.ErrRange)
	l.note(who, back)
	return l.owes()
}

// note adds an event of today to those of a customer, if there is room.
func (l *line) note(who int, e api.AccountEvent) {
	must(l.tally()[who] < api.AccountEvents, api.ErrFull)
	e.Day = l.day
	l.events[who] = with(l.events[who], e)
}

func (l *line) send() string {
	l.customer() // whose parcel it is nobody asks, but it must be somebody's
	p := api.ClaimParcel{Day: l.day, Weight: l.number['N'], Seal: l.number['M'], Value: l.number['O']}
	must(spans.Has(limits[ofWeights], p.Weight), api.ErrRange)
	must(spans.Has(limits[ofSeals], p.Seal), api.ErrRange)
	must(spans.Has(limits[ofValues], p.Value), api.ErrRange)
	must(len(l.parcels) < api.ClaimParcels, api.ErrFull)
	l.parcels = with(l.parcels, p)
	return numbers(len(l.parcels) - 1)
}

func (l *line) box() string { return l.receive(false) }

func (l *line) stamped() string { return l.receive(true) }

// receive adds a box that came today, if what was seen can be true with it.
func (l *line) receive(stamp bool) string {
	b := api.ClaimBox{Day: l.day, Weight: api.Span{Low: l.number['L'], High: l.number['M']}, Seal: l.text['S'], Stamp: stamp}
	must(spans.IsWithin(limits[ofWeights], b.Weight), api.ErrRange)
	must(len(l.boxes) < api.ClaimBoxes, api.ErrFull)
	l.boxes = with(l.boxes, b)
	told, e := claim.Told(l.desk(), len(l.boxes)-1)
	must(e != api.ErrClaimFalse, api.ErrClerkFalse)
	return numbers(told)
}
