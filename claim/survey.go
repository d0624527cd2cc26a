package claim

import (
	"wishbook/api"
	"wishbook/lists"
	"wishbook/sets"
	"wishbook/spans"
)

// parcels is which parcels of a desk are meant.
type parcels [api.ClaimParcels]bool

func (p parcels) numbers() []int { return lists.Where(p[:]) }

// rest is what a box and all behind it are, in the best way.
type rest struct {
	isTrue bool // whether there is a way
	worth  int  // of all parcels that they are
	parcel int  // that the box is, or strange
}

// survey is what is so of all truths of a desk.
type survey struct {
	desk
	better     func(worth int, others ...int) int
	known      map[state]rest
	best       rest                    // of all boxes
	which      [api.ClaimBoxes]parcels // that each box is in some truth
	isStrange  [api.ClaimBoxes]bool    // in some truth
	back, gone parcels                 // in some truth
}

// survey returns the one whose best truth is worth the most.
func (d desk) survey() survey { return d.surveyFor(spans.Greatest[int]) }

// surveyFor returns the one whose best truth has the better worth.
// Whatever the boxes before one are, with the same parcels taken the others can be the same, and so they are looked at once.
func (d desk) surveyFor(better func(worth int, others ...int) int) survey {
	s := survey{desk: d, better: better, known: map[state]rest{}}
	var give func(at state) rest
	give = func(at state) rest {
		best, isKnown := s.known[at]
		if isKnown {
			return best
		}
		if at.box == len(s.Boxes) {
			s.end(at.taken)
			return rest{isTrue: true}
		}
	parcels:
		for parcel := range s.options(at.box) {
			next := s.after(at, parcel)
			if next == (state{}) {
				continue parcels
			}
			behind := give(next)
			if behind.isTrue {
				s.add(at.box, parcel)
				best = s.choose(best, rest{true, s.value(parcel) + behind.worth, parcel})
			}
		}
		s.known[at] = best
		return best
	}
	s.best = give(state{})
	return s
}

// choose returns the better one of two ways, of which the first one may not be there.
func (s survey) choose(one, other rest) rest {
	if one.isTrue && s.better(one.worth, other.worth) == one.worth {
		return one
	}
	return other
}

// add keeps what a box is in some truth.
func (s *survey) add(box, parcel int) {
	if parcel == strange {
		s.isStrange[box] = true
	} else {
		s.which[box][parcel] = true
	}
}

// end keeps which parcels are back in some truth, and which ones are not.
func (s *survey) end(taken sets.Set) {
	for parcel := range s.Parcels {
		if taken.Has(parcel) {
			s.back[parcel] = true
		} else {
			s.gone[parcel] = true
		}
	}
}

func (d desk) value(parcel int) int {
	if parcel == strange {
		return 0
	}
	return d.Parcels[parcel].Value
}

// truth returns the best truth.
func (s survey) truth() []int {
	var list []int
	var at state
	for range s.Boxes {
		parcel := s.known[at].parcel
		list = append(list, parcel)
		at = at.with(parcel)
	}
	return list[:len(list):len(list)]
}

func (s survey) told(box int) int {
	switch {
	case s.which[box] == (parcels{}):
		return api.ClaimStrange
	case !s.isStrange[box]:
		return api.ClaimOurs
	}
	return api.ClaimOpen
}

// backs is which parcels are back.
type backs struct{ surely, perhaps []int }

func (s survey) backs() backs {
	var surely, perhaps parcels
	for parcel, is := range s.back {
		surely[parcel] = is && !s.gone[parcel]
		perhaps[parcel] = is && s.gone[parcel]
	}
	return backs{surely.numbers(), perhaps.numbers()}
}

// worths returns what all parcels that are back are worth: at the most by this survey, and at the least by another one.
func (s survey) worths() api.Span {
	least := s.surveyFor(spans.Least[int])
	return api.Span{Low: least.best.worth, High: s.best.worth}
}
