package parcel

import (
	"wishbook/api"
	"wishbook/choices"
	"wishbook/sets"
)

// division is what a division costs, how many parcels it has, and the first one of them.
type division struct {
	cost, many int
	first      load // nothing, if there are no parcels
}

// with returns the division with one parcel more ahead of it.
func (d division) with(first load, postage int) division {
	return division{d.cost + postage, d.many + 1, first}
}

func (d division) isCheaper(than division) bool {
	if d.cost == than.cost {
		return d.hasFewer(than)
	}
	return d.cost < than.cost
}

func (d division) hasFewer(than division) bool { return d.many < than.many }

// office is where pieces of a book are divided in the best way.
type office struct {
	book
	postages map[load]int // of all parcels that fit
	better   func(one, other division) bool
}

// office returns the one for a zone.
func (b book) office(zone int, better func(one, other division) bool) office {
	o := office{b, map[load]int{}, better}
	for l := range b.fitting() {
		o.postages[l] = b.postage(l, zone)
	}
	return o
}

// divider returns a function that tells the best division of pieces none of which is too big. It keeps what it found, as the divisions of more pieces go on from there.
func (o office) divider() func(sets.Set) division {
	known := map[sets.Set]division{0: {}}
	var divide func(sets.Set) division
	divide = func(pieces sets.Set) division {
		best, isKnown := known[pieces]
		if isKnown {
			return best
		}
	parcels:
		for l := range o.loads(pieces) {
			postage, fits := o.postages[l]
			if !fits {
				continue parcels
			}
			d := divide(pieces.Without(l.set)).with(l, postage)
			if best.first == (load{}) || o.better(d, best) {
				best = d
			}
		}
		known[pieces] = best
		return best
	}
	return divide
}

// best returns the best division of all pieces.
func (o office) best() division { return o.divider()(o.all()) }

// parcels returns the parcels of the best division of all pieces.
func (o office) parcels() []api.ParcelParcel {
	divide, left := o.divider(), o.all()
	var list []api.ParcelParcel
	for d := divide(left); d.first != (load{}); d = divide(left) {
		list = append(list, d.first.parcel())
		left = left.Without(d.first.set)
	}
	return list[:len(list):len(list)]
}

// send returns the pieces that are worth the most of all that can be sent for so many cents.
func (o office) send(cents int) []int {
	divide := o.divider()
	pieces := o.all().Without(sets.Of(o.big()...)).Members()
	var best []int
	most := -1
	// Of those that are worth as much the right ones come first: more pieces before fewer, and of as many the first ones.
	for fewer := range len(pieces) {
		for chosen := range choices.Of(pieces, len(pieces)-fewer) {
			set := sets.Of(chosen...)
			if together := o.bundle(set).sum(worth); together > most && divide(set).cost <= cents {
				best, most = chosen, together
			}
		}
	}
	return best[:len(best):len(best)]
}
