package shelf

import (
	"wishbook/api"
	"wishbook/lists"
	"wishbook/spans"
)

// The rows of limits.
const (
	ofDays = iota
	ofShelves
	ofRooms
	ofMoves
	ofDeliveries
	ofCounts
	ofPieces
	ofErrs
)

// limits is between what lies each number that is given, or how many things there are.
var limits = [...]api.Span{
	ofDays:       {Low: 1, High: api.ShelfDays},
	ofShelves:    {Low: 1, High: api.ShelfShelves},
	ofRooms:      {Low: 1, High: api.ShelfRoom},
	ofMoves:      {Low: 0, High: api.ShelfMoves},
	ofDeliveries: {Low: 0, High: api.ShelfDeliveries},
	ofCounts:     {Low: 0, High: api.ShelfCounts},
	ofPieces:     {Low: 0, High: api.ShelfRoom}, // that are brought, taken or counted
	ofErrs:       {Low: 0, High: api.ShelfErr},
}

func (b book) isValid() bool {
	return spans.Has(limits[ofDays], b.Days) &&
		lists.Are(limits[ofShelves], b.Shelves, isShelf) &&
		lists.Are(limits[ofMoves], b.Moves, b.isMove) &&
		lists.Are(limits[ofDeliveries], b.Deliveries, b.isDelivery) &&
		lists.Are(limits[ofCounts], b.Counts, b.isCount)
}

func isShelf(s api.ShelfShelf) bool {
	return spans.Has(limits[ofRooms], s.Room) && spans.IsWithin(roomOf(s), s.Begin)
}

func (b book) isMove(m api.ShelfMove) bool {
	return b.hasDay(m.Day) && b.hasShelf(m.Shelf) && spans.IsWithin(limits[ofPieces], m.By)
}

func (b book) isDelivery(d api.ShelfDelivery) bool {
	return b.hasShelf(d.Shelf) && spans.IsWithin(spans.Below(b.Days), d.Days) && spans.IsWithin(limits[ofPieces], d.By)
}

func (b book) isCount(c api.ShelfCount) bool {
	return b.hasDay(c.Day) && b.hasShelf(c.Shelf) && spans.Has(limits[ofPieces], c.Read) && spans.Has(limits[ofErrs], c.Err)
}

func (b book) hasDay(day int) bool { return spans.Has(spans.Below(b.Days), day) }

func (b book) hasShelf(shelf int) bool { return spans.Has(spans.Below(len(b.Shelves)), shelf) }

// roomOf is all numbers of pieces that have room on a shelf.
func roomOf(s api.ShelfShelf) api.Span { return api.Span{Low: 0, High: s.Room} }
