package claim

import (
	"wishbook/api"
	"wishbook/lists"
	"wishbook/spans"
)

// The rows of limits.
const (
	ofTerms = iota
	ofWears
	ofStrangers
	ofParcels
	ofBoxes
	ofDays
	ofWeights
	ofSeals
	ofValues
)

// limits is between what lies each number that is given, or how many things there are.
var limits = [...]api.Span{
	ofTerms:     {Low: 0, High: api.ClaimTerm},
	ofWears:     {Low: 0, High: api.ClaimWear},
	ofStrangers: {Low: 0, High: api.ClaimBoxes},
	ofParcels:   {Low: 0, High: api.ClaimParcels},
	ofBoxes:     {Low: 0, High: api.ClaimBoxes},
	ofDays:      {Low: 0, High: api.ClaimDay},
	ofWeights:   {Low: 0, High: api.ClaimWeight},
	ofSeals:     {Low: 0, High: api.ClaimSeal},
	ofValues:    {Low: 0, High: api.ClaimValue},
}

// What can be read of a seal: so many signs, or none.
const (
	signs  = 4
	hidden = '?' // a digit that cannot be read
)

func (d desk) isValid() bool {
	return spans.IsWithin(limits[ofTerms], d.Days) &&
		spans.Has(limits[ofWears], d.Wear) &&
		spans.Has(limits[ofStrangers], d.Strange) &&
		lists.Are(limits[ofParcels], d.Parcels, isParcel) &&
		lists.Are(limits[ofBoxes], d.Boxes, isBox)
}

func isParcel(p api.ClaimParcel) bool {
	return spans.Has(limits[ofDays], p.Day) &&
		spans.Has(limits[ofWeights], p.Weight) &&
		spans.Has(limits[ofSeals], p.Seal) &&
		spans.Has(limits[ofValues], p.Value)
}

func isBox(b api.ClaimBox) bool {
	return spans.Has(limits[ofDays], b.Day) &&
		spans.IsWithin(limits[ofWeights], b.Weight) &&
		(b.Seal == "" || isSeal(b.Seal))
}

func isSeal(text string) bool {
	if len(text) != signs {
		return false
	}
	for i := range signs {
		if text[i] != hidden && (text[i] < '0' || text[i] > '9') {
			return false
		}
	}
	return true
}

func (d desk) hasBox(number int) bool { return spans.Has(spans.Below(len(d.Boxes)), number) }

func (d desk) hasParcel(number int) bool { return spans.Has(spans.Below(len(d.Parcels)), number) }
