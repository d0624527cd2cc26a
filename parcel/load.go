package parcel

import (
	"slices"

	"wishbook/api"
	"wishbook/lists"
	"wishbook/sets"
	"wishbook/spans"
)

// pieces is which pieces are in a parcel.
type pieces [api.ParcelPieces]bool

func piecesOf(set sets.Set) pieces {
	var in pieces
	for piece := range in {
		in[piece] = set.Has(piece)
	}
	return in
}

// listed returns which pieces are in a list: none, if one of them is no piece, or not behind the one before it.
func (b book) listed(list []int) pieces {
	var in pieces
	next := 0
	for _, piece := range list {
		if !spans.Has(api.Span{Low: next, High: len(b.Pieces) - 1}, piece) {
			return pieces{}
		}
		in[piece] = true
		next = piece + 1
	}
	return in
}

// load is a kind and the pieces that are in it. Without pieces it is no parcel.
type load struct {
	kind int
	set  sets.Set
}

// loadOf returns what is in a parcel: nothing, if it is no parcel of the book.
func (b book) loadOf(p api.ParcelParcel) load {
	if !spans.Has(spans.Below(len(b.Kinds)), p.Kind) || b.listed(p.Pieces) == (pieces{}) {
		return load{}
	}
	return load{p.Kind, sets.Of(p.Pieces...)}
}

func (l load) parcel() api.ParcelParcel {
	return api.ParcelParcel{Kind: l.kind, Pieces: l.set.Members()}
}

// bundle is some pieces of a book that go together.
type bundle struct {
	book
	in pieces
}

func (b book) bundle(set sets.Set) bundle { return bundle{b, piecesOf(set)} }

// chosen returns the pieces that go together.
func (b bundle) chosen() []api.ParcelPiece {
	list := make([]api.ParcelPiece, 0, len(b.Pieces))
	for number, p := range b.Pieces {
		if b.in[number] {
			list = append(list, p)
		}
	}
	return list[:len(list):len(list)]
}

// sum returns what the pieces take, weigh or are worth together.
func (b bundle) sum(each func(api.ParcelPiece) int) int { return lists.Sum(each, b.chosen()...) }

func size(p api.ParcelPiece) int { return p.Size }

func weight(p api.ParcelPiece) int { return p.Weight }

func worth(p api.ParcelPiece) int { return p.Worth }

func isAlone(p api.ParcelPiece) bool { return p.Alone }

// fits reports whether the pieces fit into a kind.
func (b bundle) fits(k api.ParcelKind) bool {
	return b.sum(size) <= k.Room && b.sum(weight) <= k.Most && b.mayBeTogether()
}

func (b bundle) mayBeTogether() bool {
	list := b.chosen()
	return len(list) == 1 || !slices.ContainsFunc(list, isAlone)
}
