package parcel

import (
	"wishbook/api"
	"wishbook/lists"
	"wishbook/spans"
)

// The rows of limits.
const (
	ofPieces = iota
	ofSizes
	ofWeights
	ofWorths
	ofKinds
	ofZones
	ofPrices
	ofSteps
	ofUnits
	ofStamps
	ofCents
)

// limits is between what lies each number that is given, or how many things there are.
var limits = [...]api.Span{
	ofPieces:  {Low: 1, High: api.ParcelPieces},
	ofSizes:   {Low: 1, High: api.ParcelSize},   // and how much room there is
	ofWeights: {Low: 1, High: api.ParcelWeight}, // and how many grams a step has
	ofWorths:  {Low: 0, High: api.ParcelWorth},  // and up to which one nothing is insured
	ofKinds:   {Low: 1, High: api.ParcelKinds},
	ofZones:   {Low: 0, High: api.ParcelZones - 1},
	ofPrices:  {Low: 1, High: api.ParcelPrice}, // of a zone, and of a stamp
	ofSteps:   {Low: 0, High: api.ParcelPrice}, // what a step costs, of weight or worth
	ofUnits:   {Low: 1, High: api.ParcelWorth},
	ofStamps:  {Low: 1, High: api.ParcelStamps},
	ofCents:   {Low: 0, High: 20000},
}

func (b book) isValid() bool {
	return lists.Are(limits[ofPieces], b.Pieces, isPiece) &&
		lists.Are(limits[ofKinds], b.Kinds, isKind) &&
		spans.Has(limits[ofWeights], b.Grams) &&
		spans.Has(limits[ofWorths], b.Free) &&
		spans.Has(limits[ofUnits], b.Unit) &&
		spans.Has(limits[ofSteps], b.Fee) &&
		lists.Are(limits[ofStamps], b.Stamps, isPrice) &&
		lists.AreIncreasing(b.Stamps)
}

func isPiece(p api.ParcelPiece) bool {
	return spans.Has(limits[ofSizes], p.Size) && spans.Has(limits[ofWeights], p.Weight) && spans.Has(limits[ofWorths], p.Worth)
}

func isKind(k api.ParcelKind) bool {
	return spans.Has(limits[ofSizes], k.Room) &&
		spans.Has(limits[ofWeights], k.Most) &&
		lists.Are(spans.One(api.ParcelZones), k.Zones, isPrice) &&
		spans.Has(limits[ofSteps], k.Step)
}

func isPrice(cents int) bool { return spans.Has(limits[ofPrices], cents) }

// zoned is the number of a zone that is asked about.
type zoned int

func (z zoned) isThere() bool { return spans.Has(limits[ofZones], int(z)) }

// paid is some cents that are asked about.
type paid int

func (p paid) isThere() bool { return spans.Has(limits[ofCents], int(p)) }
