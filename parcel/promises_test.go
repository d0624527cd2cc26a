package parcel_test

import (
	"slices"
	"testing"

	"wishbook/api"
	"wishbook/parcel"
)

// question is what is asked about a book.
type question struct {
	parcel      api.ParcelParcel
	parcels     []api.ParcelParcel
	zone, cents int
}

// answers are what all functions return of a book.
type answers struct {
	check              api.Errno
	fits, is           bool
	postage, cost, few int
	cheapest           []api.ParcelParcel
	big, stamp, send   []int
	errnos             errnos
}

// errnos are the errors of all functions but Check.
type errnos struct{ fits, postage, is, cheapest, cost, few, big, stamp, send api.Errno }

func askAll(b api.ParcelBook, q question) answers {
	var a answers
	a.check = parcel.Check(b)
	a.fits, a.errnos.fits = parcel.Fits(b, q.parcel)
	a.postage, a.errnos.postage = parcel.Postage(b, q.parcel, q.zone)
	a.is, a.errnos.is = parcel.IsDivision(b, q.parcels)
	a.cheapest, a.errnos.cheapest = parcel.Cheapest(b, q.zone)
	a.cost, a.errnos.cost = parcel.Cost(b, q.zone)
	a.few, a.errnos.few = parcel.Few(b)
	a.big, a.errnos.big = parcel.Big(b)
	a.stamp, a.errnos.stamp = parcel.Stamp(b, q.cents)
	a.send, a.errnos.send = parcel.Send(b, q.zone, q.cents)
	return a
}

// areZero reports whether with each error the other results are zero.
func (a answers) areZero() bool {
	e := a.errnos
	return (e.fits == api.OK || !a.fits) && (e.postage == api.OK || a.postage == 0) && (e.is == api.OK || !a.is) &&
		(e.cheapest == api.OK || len(a.cheapest) == 0) && (e.cost == api.OK || a.cost == 0) && (e.few == api.OK || a.few == 0) &&
		(e.big == api.OK || len(a.big) == 0) && (e.stamp == api.OK || len(a.stamp) == 0) && (e.send == api.OK || len(a.send) == 0)
}

// change makes another book of the example.
type change struct {
	name string
	do   func(b *api.ParcelBook)
}

func changed(do func(b *api.ParcelBook)) api.ParcelBook {
	b := example()
	do(&b)
	return b
}

func lastPiece(p api.ParcelPiece) func(b *api.ParcelBook) {
	return func(b *api.ParcelBook) { b.Pieces[3] = p }
}

func lastKind(k api.ParcelKind) func(b *api.ParcelBook) {
	return func(b *api.ParcelBook) { b.Kinds[1] = k }
}

func numbers(grams, free, unit, fee int) func(b *api.ParcelBook) {
	return func(b *api.ParcelBook) { b.Grams, b.Free, b.Unit, b.Fee = grams, free, unit, fee }
}

func stamps(values ...int) func(b *api.ParcelBook) {
	return func(b *api.ParcelBook) { b.Stamps = values }
}

func wrongPieces() []change {
	return []change{
		{"nothing", func(b *api.ParcelBook) { *b = api.ParcelBook{} }},
		{"no pieces", func(b *api.ParcelBook) { b.Pieces = nil }},
		{"8 pieces", func(b *api.ParcelBook) { *b = largest(); b.Pieces = append(b.Pieces, piece(1, 1, 1)) }},
		{"a size of 0", lastPiece(piece(0, 1500, 2000))},
		{"a size of 501", lastPiece(piece(501, 1500, 2000))},
		{"a size below 0 of the first one", func(b *api.ParcelBook) { b.Pieces[0].Size = -1 }},
		{"a weight of 0", lastPiece(piece(30, 0, 2000))},
		{"a weight of 5001", lastPiece(piece(30, 5001, 2000))},
		{"a worth of -1", lastPiece(piece(30, 1500, -1))},
		{"a worth of 10001", lastPiece(alone(30, 1500, 10001))},
	}
}

func wrongKinds() []change {
	return []change{
		{"no kinds", func(b *api.ParcelBook) { b.Kinds = nil }},
		{"5 kinds", func(b *api.ParcelBook) { *b = largest(); b.Kinds = append(b.Kinds, flat(1, 1, 1)) }},
		{"a room of 0", lastKind(flat(0, 3000, 20))},
		{"a room of 501", lastKind(flat(501, 3000, 20))},
		{"a room below 0 of the first one", func(b *api.ParcelBook) { b.Kinds[0].Room = -1 }},
		{"0 grams at most", lastKind(flat(60, 0, 20))},
		{"5001 grams at most", lastKind(flat(60, 5001, 20))},
		{"no zones", lastKind(kind(60, 3000, 5))},
		{"4 zones", lastKind(kind(60, 3000, 5, 20, 24, 28, 32))},
		{"6 zones", lastKind(kind(60, 3000, 5, 20, 24, 28, 32, 36, 40))},
		{"4 zones of the first one", func(b *api.ParcelBook) { b.Kinds[0].Zones = list(10, 12, 14, 16) }},
		{"a price of 0", lastKind(kind(60, 3000, 5, 0, 24, 28, 32, 36))},
		{"a last price of 0", lastKind(kind(60, 3000, 5, 20, 24, 28, 32, 0))},
		{"a price of 1001", lastKind(kind(60, 3000, 5, 20, 24, 1001, 32, 36))},
		{"a step of -1", lastKind(kind(60, 3000, -1, 20, 24, 28, 32, 36))},
		{"a step of 1001", lastKind(kind(60, 3000, 1001, 20, 24, 28, 32, 36))},
	}
}

func wrongNumbers() []change {
	return []change{
		{"no grams in a step", numbers(0, 1000, 1000, 3)},
		{"grams below 0 in a step", numbers(-1, 1000, 1000, 3)},
		{"5001 grams in a step", numbers(5001, 1000, 1000, 3)},
		{"free up to -1", numbers(500, -1, 1000, 3)},
		{"free up to 10001", numbers(500, 10001, 1000, 3)},
		{"no cents in a unit", numbers(500, 1000, 0, 3)},
		{"cents below 0 in a unit", numbers(500, 1000, -1, 3)},
		{"10001 cents in a unit", numbers(500, 1000, 10001, 3)},
		{"a fee of -1", numbers(500, 1000, 1000, -1)},
		{"a fee of 1001", numbers(500, 1000, 1000, 1001)},
		{"no stamps", stamps()},
		{"6 stamps", stamps(1, 2, 3, 4, 5, 6)},
		{"a stamp of 0", stamps(0, 1, 2)},
		{"a stamp below 0", stamps(-1)},
		{"a stamp of 1001", stamps(1, 1001)},
		{"the same stamp twice", stamps(1, 2, 2)},
		{"the same first stamp twice", stamps(1, 1, 2)},
		{"stamps that do not increase", stamps(2, 1, 5)},
		{"a last stamp that is less", stamps(1, 5, 10, 2)},
	}
}

func rightBooks() []change {
	return []change{
		{"the example", func(b *api.ParcelBook) {}},
		{"the largest", func(b *api.ParcelBook) { *b = largest() }},
		{"the least numbers", func(b *api.ParcelBook) {
			*b = api.ParcelBook{Pieces: []api.ParcelPiece{piece(1, 1, 0)}, Kinds: []api.ParcelKind{flat(1, 1, 1)}, Grams: 1, Unit: 1, Stamps: list(1)}
		}},
		{"the greatest numbers", numbers(5000, 10000, 10000, 1000)},
		{"a small piece", lastPiece(alone(1, 1, 0))},
		{"a big piece", lastPiece(piece(500, 5000, 10000))},
		{"any prices", lastKind(kind(500, 5000, 1000, 1000, 1, 1000, 1, 1))},
		{"the same kind twice", func(b *api.ParcelBook) { b.Kinds[1] = b.Kinds[0] }},
		{"one stamp", stamps(1000)},
		{"5 stamps", stamps(1, 2, 3, 4, 1000)},
		{"all alone", func(b *api.ParcelBook) {
			for i := range b.Pieces {
				b.Pieces[i].Alone = true
			}
		}},
	}
}

// P6.1: which books are valid, and that this error is the first one.
func TestP6_1Check(t *testing.T) {
	const e = api.ErrParcel
	for _, c := range slices.Concat(wrongPieces(), wrongKinds(), wrongNumbers()) {
		b := changed(c.do)
		for _, q := range []question{{pack(0, 0), packs(pack(0, 0)), 0, 0}, {pack(-1), nil, -1, -1}, {pack(9, 6, 7, 8), packs(pack(9, 6, 7, 8)), 5, 20001}} {
			if a := askAll(b, q); a.check != e || a.errnos != (errnos{e, e, e, e, e, e, e, e, e}) || !a.areZero() {
				t.Errorf("%s: %v", c.name, a)
			}
		}
	}
	const ask = api.ErrParcelAsk
	for _, c := range rightBooks() {
		b := changed(c.do)
		a := askAll(b, question{pack(len(b.Kinds), 0), nil, 5, 20001})
		if a.check != api.OK || a.errnos != (errnos{ask, ask, api.OK, ask, ask, a.errnos.few, api.OK, ask, ask}) || !a.areZero() || a.errnos.few == e {
			t.Errorf("%s: %v", c.name, a)
		}
	}
}

// P6.1: what is a parcel: nothing else can be asked about, nor is it in a division.
func TestP6_1Parcels(t *testing.T) {
	for _, x := range []struct {
		name   string
		parcel api.ParcelParcel
		want   bool
	}{
		{"one piece", pack(0, 3), true},
		{"all pieces", pack(1, 0, 1, 2, 3), true},
		{"the last kind", pack(1, 1, 3), true},
		{"no pieces", pack(0), false},
		{"an empty list of pieces", api.ParcelParcel{Pieces: []int{}}, false},
		{"no pieces in the last kind", pack(1), false},
		{"the kind -1", pack(-1, 0), false},
		{"a kind too many", pack(2, 0), false},
		{"the piece -1", pack(0, -1), false},
		{"the piece -1 before another one", pack(0, -1, 0), false},
		{"a piece too many", pack(0, 4), false},
		{"a piece too many behind another one", pack(0, 0, 4), false},
		{"a piece twice", pack(1, 0, 0), false},
		{"pieces that do not increase", pack(1, 1, 0), false},
		{"a piece twice at the end", pack(1, 0, 1, 1), false},
		{"a piece again", pack(1, 0, 1, 0), false},
	} {
		want := api.OK
		if !x.want {
			want = api.ErrParcelAsk
		}
		_, e := parcel.Fits(example(), x.parcel)
		_, f := parcel.Postage(example(), x.parcel, 4)
		if e != want || (f == api.ErrParcelAsk) == x.want {
			t.Errorf("%s: %d, %d, not %d", x.name, e, f, want)
		}
		if !x.want {
			with := packs(pack(1, 0, 1, 3), pack(0, 2), x.parcel)
			if is, e := parcel.IsDivision(example(), with); is || e != api.OK {
				t.Errorf("IsDivision with %s: %v, %d", x.name, is, e)
			}
		}
	}
}

// P6.1: which parcels fit.
func TestP6_1Fits(t *testing.T) {
	full := changed(lastPiece(piece(30, 1700, 2000)))
	heavy := changed(lastPiece(piece(30, 1701, 2000)))
	wide := changed(lastPiece(piece(31, 1500, 2000)))
	tall := changed(lastPiece(piece(30, 1500, 2000)))
	tall.Kinds[1].Room = 59
	for _, x := range []struct {
		name   string
		b      api.ParcelBook
		parcel api.ParcelParcel
		want   bool
	}{
		{"kind 0 with 0", example(), pack(0, 0), true},
		{"kind 0 with 0 1", example(), pack(0, 0, 1), false},
		{"kind 1 with 0 1", example(), pack(1, 0, 1), true},
		{"kind 1 with 0 1 3", example(), pack(1, 0, 1, 3), true},
		{"kind 1 with 0 2", example(), pack(1, 0, 2), false},
		{"kind 1 with 2 3", example(), pack(1, 2, 3), false},
		{"kind 1 with all", example(), pack(1, 0, 1, 2, 3), false},
		{"alone, by itself", example(), pack(0, 2), true},
		{"alone, by itself, in a larger kind", example(), pack(1, 2), true},
		{"kind 0 with 3", example(), pack(0, 3), false},
		{"just as heavy as can be", full, pack(1, 0, 1, 3), true},
		{"a gram too heavy", heavy, pack(1, 0, 1, 3), false},
		{"too much for the room by one", wide, pack(1, 0, 1, 3), false},
		{"the room is too little by one", tall, pack(1, 0, 1, 3), false},
		{"just as large as can be", tall, pack(1, 1, 3), true},
	} {
		if got, e := parcel.Fits(x.b, x.parcel); got != x.want || e != api.OK {
			t.Errorf("Fits: %s: %v, %d", x.name, got, e)
		}
		_, e := parcel.Postage(x.b, x.parcel, 0)
		if want := map[bool]api.Errno{true: api.OK, false: api.ErrNone}[x.want]; e != want {
			t.Errorf("Postage: %s: %d", x.name, e)
		}
	}
}

// P6.1: what a parcel costs in a zone.
func TestP6_1Postage(t *testing.T) {
	one := func(weight, worth int, do func(b *api.ParcelBook)) api.ParcelBook {
		b := example()
		b.Pieces[0].Weight, b.Pieces[0].Worth = weight, worth
		do(&b)
		return b
	}
	as := numbers(500, 1000, 1000, 3)
	for _, x := range []struct {
		name   string
		b      api.ParcelBook
		parcel api.ParcelParcel
		zone   int
		want   int
		e      api.Errno
	}{
		{"1 in the kind 0", example(), pack(0, 1), 0, 15, api.OK},
		{"3 in the kind 1", example(), pack(1, 3), 0, 33, api.OK},
		{"0 1 3", example(), pack(1, 0, 1, 3), 0, 54, api.OK},
		{"0 1 3 in the zone 4", example(), pack(1, 0, 1, 3), 4, 70, api.OK},
		{"0 1 3 in the zone 2", example(), pack(1, 0, 1, 3), 2, 62, api.OK},
		{"alone", example(), pack(0, 2), 1, 12, api.OK},
		{"all grams of the first step", one(500, 0, as), pack(0, 0), 0, 10, api.OK},
		{"the second step is begun", one(501, 0, as), pack(0, 0), 0, 12, api.OK},
		{"all grams of the second step", one(1000, 0, as), pack(0, 0), 0, 12, api.OK},
		{"the third step is begun", one(1001, 0, as), pack(1, 0), 0, 30, api.OK},
		{"one gram", one(1, 0, as), pack(1, 0), 3, 32, api.OK},
		{"each gram is a step", one(1000, 0, numbers(1, 1000, 1000, 3)), pack(0, 0), 0, 2008, api.OK},
		{"worth no more than is free", one(1, 1000, as), pack(0, 0), 0, 10, api.OK},
		{"worth a cent more", one(1, 1001, as), pack(0, 0), 0, 13, api.OK},
		{"worth all of the first unit", one(1, 2000, as), pack(0, 0), 0, 13, api.OK},
		{"worth a cent more than the first unit", one(1, 2001, as), pack(0, 0), 0, 16, api.OK},
		{"nothing is free, and worth nothing", one(1, 0, numbers(500, 0, 1, 3)), pack(0, 0), 0, 10, api.OK},
		{"nothing is free, and worth a cent", one(1, 1, numbers(500, 0, 1, 3)), pack(0, 0), 0, 13, api.OK},
		{"each cent is insured", one(1, 10000, numbers(500, 0, 1, 1000)), pack(0, 0), 0, 10000010, api.OK},
		{"a large unit", one(1, 10000, numbers(500, 0, 10000, 7)), pack(0, 0), 0, 17, api.OK},
		{"no fee", one(1, 10000, numbers(500, 0, 1, 0)), pack(0, 0), 0, 10, api.OK},
		{"the largest", largest(), pack(3, 6), 4, 15000000, api.OK},
		{"the zone -1", example(), pack(0, 0), -1, 0, api.ErrParcelAsk},
		{"the zone 5", example(), pack(0, 0), 5, 0, api.ErrParcelAsk},
		{"the zone 5, and it does not fit", example(), pack(0, 3), 5, 0, api.ErrParcelAsk},
		{"no parcel", example(), pack(0, 0, 0), 0, 0, api.ErrParcelAsk},
		{"it does not fit", example(), pack(0, 3), 0, 0, api.ErrNone},
	} {
		if got, e := parcel.Postage(x.b, x.parcel, x.zone); got != x.want || e != x.e {
			t.Errorf("Postage: %s: %d, %d, not %d, %d", x.name, got, e, x.want, x.e)
		}
	}
}

// P6.2: what is a division.
func TestP6_2IsDivision(t *testing.T) {
	for _, x := range []struct {
		name string
		b    api.ParcelBook
		list []api.ParcelParcel
		want bool
	}{
		{"the cheapest one", example(), packs(pack(0, 2), pack(1, 0, 1, 3)), true},
		{"in another order", example(), packs(pack(1, 0, 1, 3), pack(0, 2)), true},
		{"each by itself", example(), packs(pack(0, 0), pack(0, 1), pack(0, 2), pack(1, 3)), true},
		{"dearer than it must be", example(), packs(pack(1, 3), pack(1, 2), pack(1, 0, 1)), true},
		{"nothing", example(), nil, false},
		{"an empty list", example(), packs(), false},
		{"a piece is in none", example(), packs(pack(1, 0, 1, 3)), false},
		{"the last piece is in none", example(), packs(pack(1, 0, 1), pack(0, 2)), false},
		{"a piece is in two", example(), packs(pack(1, 0, 1), pack(0, 2), pack(1, 0, 3)), false},
		{"a parcel twice", example(), packs(pack(0, 2), pack(1, 0, 1, 3), pack(0, 2)), false},
		{"one does not fit", example(), packs(pack(0, 0, 1), pack(0, 2), pack(1, 3)), false},
		{"one that goes alone does not", example(), packs(pack(1, 0, 2), pack(1, 1, 3)), false},
		{"the last one does not fit", example(), packs(pack(0, 2), pack(1, 0, 1), pack(0, 3)), false},
		{"one piece", simple(list(5), [2]int{5, 9}), packs(pack(0, 0)), true},
		{"one piece that is too big", simple(list(6), [2]int{5, 9}), packs(pack(0, 0)), false},
		{"all of the largest", largest(), packs(pack(0, 6), pack(1, 5), pack(2, 4), pack(3, 3), pack(0, 2), pack(1, 1), pack(2, 0)), true},
		{"all of the largest but one", largest(), packs(pack(0, 6), pack(1, 5), pack(2, 4), pack(3, 3), pack(0, 2), pack(1, 1)), false},
	} {
		if got, e := parcel.IsDivision(x.b, x.list); got != x.want || e != api.OK {
			t.Errorf("IsDivision: %s: %v, %d", x.name, got, e)
		}
	}
}

// asSets is parcels in an order that does not depend on how they are told.
func asSets(l []api.ParcelParcel) []api.ParcelParcel {
	return slices.SortedFunc(slices.Values(l), func(one, other api.ParcelParcel) int { return slices.Compare(one.Pieces, other.Pieces) })
}

func areEqual(one, other []api.ParcelParcel) bool {
	return slices.EqualFunc(asSets(one), asSets(other), func(p, q api.ParcelParcel) bool {
		return p.Kind == q.Kind && slices.Equal(p.Pieces, q.Pieces)
	})
}

// P6.2: the cheapest division, of several ones one with the fewest parcels, and what it costs; P6.3: in how few parcels all pieces go.
func TestP6_2Cheapest(t *testing.T) {
	for _, x := range []struct {
		name string
		b    api.ParcelBook
		zone int
		want []api.ParcelParcel
		cost int
		few  int
	}{
		{"the example", example(), 0, packs(pack(0, 2), pack(1, 0, 1, 3)), 64, 2},
		{"the zone 4", example(), 4, packs(pack(0, 2), pack(1, 0, 1, 3)), 88, 2},
		{"one piece, the cheaper kind", simple(list(5), [2]int{5, 9}, [2]int{7, 8}), 0, packs(pack(1, 0)), 8, 1},
		{"two for the price of one", simple(list(5, 5), [2]int{5, 9}, [2]int{10, 9}), 3, packs(pack(1, 0, 1)), 9, 1},
		{"as dear in fewer parcels", simple(list(5, 5), [2]int{5, 9}, [2]int{10, 18}), 3, packs(pack(1, 0, 1)), 18, 1},
		{"as dear in fewer parcels, the other way around", simple(list(5, 5), [2]int{10, 18}, [2]int{5, 9}), 3, packs(pack(0, 0, 1)), 18, 1},
		{"cheaper in more parcels", simple(list(5, 5), [2]int{5, 9}, [2]int{10, 19}), 3, packs(pack(0, 0), pack(0, 1)), 18, 1},
		{"the small ones together", simple(list(2, 9, 3, 5), [2]int{10, 7}), 0, packs(pack(0, 1), pack(0, 0, 2, 3)), 14, 2},
		{"not the most at once", simple(list(6, 5, 4, 5), [2]int{10, 7}), 0, packs(pack(0, 0, 2), pack(0, 1, 3)), 14, 2},
	} {
		if got, e := parcel.Cheapest(x.b, x.zone); !areEqual(got, x.want) || e != api.OK {
			t.Errorf("Cheapest: %s: %v, %d, not %v", x.name, got, e, x.want)
		}
		if got, e := parcel.Cost(x.b, x.zone); got != x.cost || e != api.OK {
			t.Errorf("Cost: %s: %d, %d, not %d", x.name, got, e, x.cost)
		}
		if got, e := parcel.Few(x.b); got != x.few || e != api.OK {
			t.Errorf("Few: %s: %d, %d, not %d", x.name, got, e, x.few)
		}
	}
	b := largest()
	got, e := parcel.Cheapest(b, 2)
	cost, f := parcel.Cost(b, 2)
	few, g := parcel.Few(b)
	if is, _ := parcel.IsDivision(b, got); !is || len(got) != 7 || e != api.OK || cost != 7*15000000 || f != api.OK || few != 7 || g != api.OK {
		t.Errorf("of the largest: %v, %d, %d, %d, %d, %d", got, e, cost, f, few, g)
	}
}

// P6.2: the errors of Cheapest and Cost; P6.3: that of Few, and which pieces are too big.
func TestP6_3Big(t *testing.T) {
	heavy := changed(lastPiece(piece(60, 3001, 0)))
	twice := simple(list(8, 3, 7, 9), [2]int{7, 1}, [2]int{5, 1})
	crossed := simple(list(5), [2]int{5, 1}, [2]int{9, 1})
	crossed.Pieces[0].Weight, crossed.Kinds[0].Most, crossed.Kinds[1].Room = 10, 9, 4
	fits := simple(list(5), [2]int{5, 1}, [2]int{9, 1})
	fits.Pieces[0].Weight, fits.Kinds[0].Most = 10, 9
	for _, x := range []struct {
		name string
		b    api.ParcelBook
		want []int
	}{
		{"the example", example(), nil},
		{"all that can be", changed(lastPiece(piece(60, 3000, 0))), nil},
		{"a gram too much", heavy, list(3)},
		{"too large by one", changed(lastPiece(piece(61, 3000, 0))), list(3)},
		{"too large, and it goes alone", changed(lastPiece(alone(61, 3000, 0))), list(3)},
		{"large, and it goes alone", changed(lastPiece(alone(60, 3000, 0))), nil},
		{"two of four", twice, list(0, 3)},
		{"room in one kind, and weight in another one", crossed, list(0)},
		{"only in the larger kind", fits, nil},
		{"all", simple(list(8, 9, 10), [2]int{7, 1}), list(0, 1, 2)},
		{"the largest", largest(), nil},
	} {
		if got, e := parcel.Big(x.b); !slices.Equal(got, x.want) || e != api.OK {
			t.Errorf("Big: %s: %v, %d, not %v", x.name, got, e, x.want)
		}
		want := api.OK
		if x.want != nil {
			want = api.ErrNone
		}
		for zone := range api.ParcelZones {
			a := askAll(x.b, question{zone: zone})
			if e := a.errnos; e.cheapest != want || e.cost != want || e.few != want || !a.areZero() {
				t.Errorf("%s, zone %d: %v, not %d", x.name, zone, a, want)
			}
		}
		for _, zone := range list(-1, api.ParcelZones) {
			a := askAll(x.b, question{zone: zone})
			if e := a.errnos; e.cheapest != api.ErrParcelAsk || e.cost != api.ErrParcelAsk || e.few != want || !a.areZero() {
				t.Errorf("%s, zone %d: %v", x.name, zone, a)
			}
		}
	}
}

// P6.3: fewer parcels than the cheapest division has.
func TestP6_3Few(t *testing.T) {
	for _, x := range []struct {
		name  string
		b     api.ParcelBook
		cheap int
		few   int
	}{
		{"a dear large kind", simple(list(5, 5, 5), [2]int{5, 1}, [2]int{15, 100}), 3, 1},
		{"a dear kind for two", simple(list(5, 5, 5), [2]int{5, 1}, [2]int{10, 100}), 3, 2},
		{"as few", simple(list(5, 5, 5), [2]int{5, 1}, [2]int{9, 100}), 3, 3},
		{"all alone", changed(func(b *api.ParcelBook) { b.Pieces[0].Alone, b.Pieces[1].Alone = true, true }), 4, 4},
	} {
		l, _ := parcel.Cheapest(x.b, 0)
		if got, e := parcel.Few(x.b); got != x.few || e != api.OK || len(l) != x.cheap {
			t.Errorf("Few: %s: %d, %d (cheapest: %v)", x.name, got, e, l)
		}
	}
}

// P6.4: the stamps for some cents.
func TestP6_4Stamp(t *testing.T) {
	for _, x := range []struct {
		name   string
		values []int
		cents  int
		want   []int
		e      api.Errno
	}{
		{"the example", list(1, 2, 5, 10), 64, list(0, 2, 0, 6), api.OK},
		{"nothing", list(1, 2, 5, 10), 0, list(0, 0, 0, 0), api.OK},
		{"one cent", list(1, 2, 5, 10), 1, list(1, 0, 0, 0), api.OK},
		{"as many cents as can be", list(1, 2, 5, 10), 20000, list(0, 0, 0, 2000), api.OK},
		{"as many stamps as can be", list(1), 20000, list(20000), api.OK},
		{"no stamp is so small", list(7, 10), 1, list(1, 0), api.OK},
		{"more than it must be, but as little as can be", list(7, 10), 12, list(2, 0), api.OK},
		{"just so much", list(7, 10), 17, list(1, 1), api.OK},
		{"two more than it must be", list(7, 10), 18, list(0, 2), api.OK},
		{"less worth in more stamps", list(3, 10), 9, list(3, 0), api.OK},
		{"fewer stamps, without the greatest one", list(1, 4, 5), 8, list(0, 2, 0), api.OK},
		{"as many stamps, the first ones", list(5, 10, 15), 20, list(0, 2, 0), api.OK},
		{"as many stamps of more values, the first ones", list(1, 2, 3, 4, 5), 10, list(0, 0, 0, 0, 2), api.OK},
		{"as many stamps, not those of equal worth", list(2, 3, 4), 6, list(0, 2, 0), api.OK},
		{"three of them", list(1, 6, 7, 8), 21, list(0, 0, 3, 0), api.OK},
		{"one great stamp", list(1000), 1, list(1), api.OK},
		{"great stamps", list(999, 1000), 20000, list(0, 20), api.OK},
		{"great stamps that are too much by a bit", list(999), 19981, list(21), api.OK},
		{"the greatest stamps: 20 are just enough", list(996, 997, 998, 999, 1000), 19921, list(19, 1, 0, 0, 0), api.OK},
		{"-1 cents", list(1, 2, 5, 10), -1, nil, api.ErrParcelAsk},
		{"20001 cents", list(1, 2, 5, 10), 20001, nil, api.ErrParcelAsk},
	} {
		if got, e := parcel.Stamp(changed(stamps(x.values...)), x.cents); !slices.Equal(got, x.want) || e != x.e {
			t.Errorf("Stamp: %s: %v, %d, not %v, %d", x.name, got, e, x.want, x.e)
		}
	}
}

// P6.5: what can be sent for some cents.
func TestP6_5Send(t *testing.T) {
	same := simple(list(5, 5, 5), [2]int{5, 10})
	worthless := simple(list(5, 5, 5, 9), [2]int{10, 10})
	for i := range worthless.Pieces {
		worthless.Pieces[i].Worth = 0
	}
	mixed := simple(list(6, 3, 2, 1), [2]int{6, 10})
	many := simple(list(5, 6, 5, 5), [2]int{10, 10})
	many.Pieces[1].Worth = 100
	big := simple(list(9, 3, 2), [2]int{6, 10})
	for _, x := range []struct {
		name  string
		b     api.ParcelBook
		zone  int
		cents int
		want  []int
		e     api.Errno
	}{
		{"33 cents", example(), 0, 33, list(3), api.OK},
		{"32 cents", example(), 0, 32, list(0, 1), api.OK},
		{"15 cents", example(), 0, 15, list(1), api.OK},
		{"14 cents", example(), 0, 14, list(0), api.OK},
		{"10 cents", example(), 0, 10, list(0), api.OK},
		{"9 cents", example(), 0, 9, nil, api.OK},
		{"nothing", example(), 0, 0, nil, api.OK},
		{"a cent less than all", example(), 0, 63, list(0, 1, 3), api.OK},
		{"all", example(), 0, 64, list(0, 1, 2, 3), api.OK},
		{"as much as can be", example(), 0, 20000, list(0, 1, 2, 3), api.OK},
		{"the zone 4", example(), 4, 87, list(0, 1, 3), api.OK},
		{"all in the zone 4", example(), 4, 88, list(0, 1, 2, 3), api.OK},
		{"of equal ones the first one", same, 0, 10, list(0), api.OK},
		{"of equal ones the first two", same, 0, 29, list(0, 1), api.OK},
		{"as much worth in more pieces", mixed, 0, 10, list(1, 2, 3), api.OK},
		{"as much worth in as many pieces", many, 0, 10, list(0, 2), api.OK},
		{"worth nothing: as many as can be", worthless, 0, 10, list(0, 1), api.OK},
		{"worth nothing, in two parcels", worthless, 0, 20, list(0, 1, 2), api.OK},
		{"worth nothing, all", worthless, 0, 30, list(0, 1, 2, 3), api.OK},
		{"all but what is too big", big, 0, 20000, list(1, 2), api.OK},
		{"all too big", simple(list(8, 9), [2]int{7, 1}), 0, 20000, nil, api.OK},
		{"too dear", largest(), 0, 20000, nil, api.OK},
		{"the zone -1", example(), -1, 33, nil, api.ErrParcelAsk},
		{"the zone 5", example(), 5, 33, nil, api.ErrParcelAsk},
		{"-1 cents", example(), 0, -1, nil, api.ErrParcelAsk},
		{"20001 cents", example(), 0, 20001, nil, api.ErrParcelAsk},
	} {
		if got, e := parcel.Send(x.b, x.zone, x.cents); !slices.Equal(got, x.want) || e != x.e {
			t.Errorf("Send: %s: %v, %d, not %v, %d", x.name, got, e, x.want, x.e)
		}
	}
}
