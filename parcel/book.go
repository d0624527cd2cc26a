package parcel

import (
	"iter"
	"slices"

	"wishbook/api"
	"wishbook/sets"
)

// book is a book in the calculation.
type book struct{ api.ParcelBook }

// check returns the errors that functions share. Some ask about a thing, which must be there.
func (b book) check(isThere ...func() bool) api.Errno {
	if !b.isValid() {
		return api.ErrParcel
	}
	for _, is := range isThere {
		if !is() {
			return api.ErrParcelAsk
		}
	}
	return api.OK
}

// all returns all pieces.
func (b book) all() sets.Set { return sets.Below(len(b.Pieces)) }

// big returns the pieces that fit into no kind, even by themselves.
func (b book) big() []int {
	var list []int
	for piece := range len(b.Pieces) {
		if !slices.ContainsFunc(b.Kinds, b.bundle(sets.Of(piece)).fits) {
			list = append(list, piece)
		}
	}
	return list[:len(list):len(list)]
}

// loads produces all parcels of some pieces, whether they fit or not.
func (b book) loads(of sets.Set) iter.Seq[load] {
	return func(yield func(load) bool) {
		for set := range of.Parts() {
			for kind := range len(b.Kinds) {
				if !yield(load{kind, set}) {
					return
				}
			}
		}
	}
}

// fitting produces all parcels that fit.
func (b book) fitting() iter.Seq[load] {
	return func(yield func(load) bool) {
		for l := range b.loads(b.all()) {
			if b.fits(l) && !yield(l) {
				return
			}
		}
	}
}

func (b book) fits(l load) bool { return b.bundle(l.set).fits(b.Kinds[l.kind]) }

// isDivision reports whether each piece is in just one of some parcels, and all of them fit.
func (b book) isDivision(list []api.ParcelParcel) bool {
	left := b.all()
	for _, p := range list {
		l := b.loadOf(p)
		if l == (load{}) || !b.fits(l) || l.set.Without(left) != 0 {
			return false
		}
		left = left.Without(l.set)
	}
	return left == 0
}

// asking is a parcel that is asked about.
type asking struct {
	book
	parcel api.ParcelParcel
}

func (a asking) load() load { return a.loadOf(a.parcel) }

func (a asking) isParcel() bool { return a.load() != load{} }
