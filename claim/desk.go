package claim

import (
	"iter"
	"slices"

	"wishbook/api"
	"wishbook/choices"
)

// desk is a desk in the calculation.
type desk struct{ api.ClaimDesk }

// check returns the errors that functions share. Some ask about a thing, which must be there.
func (d desk) check(isThere ...func() bool) api.Errno {
	if !d.isValid() {
		return api.ErrClaim
	}
	for _, is := range isThere {
		if !is() {
			return api.ErrClaimAsk
		}
	}
	return api.OK
}

// canBe reports whether a box by itself can be a parcel, or strange.
func (d desk) canBe(box, parcel int) bool {
	if parcel == strange {
		return !d.Boxes[box].Stamp
	}
	return d.hasParcel(parcel) && match{d, d.Boxes[box], d.Parcels[parcel]}.isPossible()
}

// options produces all that a box by itself can be.
func (d desk) options(box int) iter.Seq[int] {
	return func(yield func(int) bool) {
		for parcel := strange; parcel < len(d.Parcels); parcel++ {
			if d.canBe(box, parcel) && !yield(parcel) {
				return
			}
		}
	}
}

func (d desk) canBeTrue() bool { return d.survey().best.isTrue }

// fewest returns with how few strange boxes there is a truth, if there is one at all.
func (d desk) fewest() (int, bool) {
	for many := range limits[ofStrangers].High + 1 {
		d.Strange = many
		if d.canBeTrue() {
			return many, true
		}
	}
	return 0, false
}

// wrong returns the fewest boxes without whose stamps there is a truth, the first list of them, if there is one at all.
func (d desk) wrong() ([]int, bool) {
	stamped := d.stamped()
	for many := range len(stamped) + 1 {
		for boxes := range choices.Of(stamped, many) {
			if d.withoutStamps(boxes).canBeTrue() {
				return boxes[:len(boxes):len(boxes)], true
			}
		}
	}
	return nil, false
}

func (d desk) stamped() []int {
	var list []int
	for box, b := range d.Boxes {
		if b.Stamp {
			list = append(list, box)
		}
	}
	return list[:len(list):len(list)]
}

func (d desk) withoutStamps(boxes []int) desk {
	d.Boxes = slices.Clone(d.Boxes)
	for _, box := range boxes {
		d.Boxes[box].Stamp = false
	}
	return d
}

// asking is a box that is asked about, and perhaps a parcel.
type asking struct {
	desk
	box, parcel int
}

func (a asking) isBox() bool { return a.hasBox(a.box) }

func (a asking) isParcel() bool { return a.hasParcel(a.parcel) }

func (a asking) could() bool { return a.canBe(a.box, a.parcel) }

func (a asking) which(s survey) []int { return s.which[a.box].numbers() }

func (a asking) told(s survey) int { return s.told(a.box) }
