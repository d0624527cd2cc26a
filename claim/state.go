package claim

import "wishbook/sets"

// strange stands for a parcel where a box is none.
const strange = -1

// state is a box, and the parcels that those before it are.
type state struct {
	box   int
	taken sets.Set
}

// with returns the state of the next box, if this one is a parcel, or strange.
func (s state) with(parcel int) state {
	s.box++
	if parcel != strange {
		s.taken = s.taken.With(parcel)
	}
	return s
}

// strangers returns how many boxes before this one are strange: those that are no parcel.
func (s state) strangers() int { return s.box - s.taken.Count() }

// after returns the state of the next box, if this one is a parcel, or strange: nothing, if it cannot be beside those before it.
func (d desk) after(at state, parcel int) state {
	next := at.with(parcel)
	if parcel != strange && at.taken.Has(parcel) || next.strangers() > d.Strange {
		return state{}
	}
	return next
}

// telling is which parcels the boxes of a desk are said to be.
type telling struct {
	desk
	parcels []int
}

func (t telling) isTruth() bool {
	if len(t.parcels) != len(t.Boxes) {
		return false
	}
	var at state
	for box, parcel := range t.parcels {
		if !t.canBe(box, parcel) {
			return false
		}
		at = t.after(at, parcel)
		if at == (state{}) {
			return false
		}
	}
	return true
}
