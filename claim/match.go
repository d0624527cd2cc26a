package claim

import (
	"wishbook/api"
	"wishbook/spans"
)

// match is a box of a desk, and a parcel that it may be.
type match struct {
	desk
	box    api.ClaimBox
	parcel api.ClaimParcel
}

// marks is by what a box is known.
func marks() [3]func(match) bool {
	return [...]func(match) bool{match.cameInTime, match.hasWeight, match.hasSeal}
}

func (m match) isPossible() bool {
	for _, has := range marks() {
		if !has(m) {
			return false
		}
	}
	return true
}

func (m match) cameInTime() bool { return spans.Has(m.Days, m.box.Day-m.parcel.Day) }

// hasWeight reports whether the box can weigh what is left of the parcel, which wears, but never gains.
func (m match) hasWeight() bool {
	return spans.Meet(m.box.Weight, api.Span{Low: m.parcel.Weight - m.Wear, High: m.parcel.Weight})
}

// hasSeal reports whether all digits that can be read are those of the parcel. They are looked at from the last one on, as the seal of the parcel is a number.
func (m match) hasSeal() bool {
	left := m.parcel.Seal
	for i := range len(m.box.Seal) {
		sign := m.box.Seal[len(m.box.Seal)-1-i]
		if sign != hidden && int(sign-'0') != left%10 {
			return false
		}
		left /= 10
	}
	return true
}
