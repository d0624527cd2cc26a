package parcel_test

import (
	"reflect"
	"slices"
	"testing"

	"wishbook/api"
	"wishbook/parcel"
	"wishbook/sample"
)

// P6.1: all parcels of small books: whether they fit and what they cost, as the definitions say.
func TestP6_1AllParcels(t *testing.T) {
	fits := map[bool]int{}
	eachBook(t, 100, 5, func(d sample.Dice, b api.ParcelBook) {
		zone := d(api.ParcelZones)
		for kind := range b.Kinds {
			for set := 1; set < 1<<len(b.Pieces); set++ {
				p := pack(kind, members(set)...)
				want := plainFits(b, p)
				fits[want]++
				if got, e := parcel.Fits(b, p); got != want || e != api.OK {
					t.Fatalf("Fits of %v, %v: %v, %d", b, p, got, e)
				}
				got, e := parcel.Postage(b, p, zone)
				if want && (got != plainPostage(b, p, zone) || e != api.OK) || !want && (got != 0 || e != api.ErrNone) {
					t.Fatalf("Postage of %v, %v, %d: %d, %d, not %d", b, p, zone, got, e, plainPostage(b, p, zone))
				}
			}
		}
	})
	if fits[true] < 1000 || fits[false] < 1000 {
		t.Errorf("parcels that fit, and others: %v", fits)
	}
}

// P6.2: lists of parcels, as the definition says: divisions, some that are changed, and any.
func TestP6_2IsDivisionOrNot(t *testing.T) {
	are := map[bool]int{}
	check := func(b api.ParcelBook, l []api.ParcelParcel) {
		t.Helper()
		want := plainIsDivision(b, l)
		are[want]++
		if got, e := parcel.IsDivision(b, l); got != want || e != api.OK {
			t.Fatalf("IsDivision of %v, %v: %v, %d", b, l, got, e)
		}
	}
	eachBook(t, 200, 4, func(d sample.Dice, b api.ParcelBook) {
		eachDivision(b, everything(b), func(l []api.ParcelParcel) {
			check(b, l)
			check(b, l[1:])
			other := clonePacks(l)
			other[d(len(l))].Kind = d(len(b.Kinds))
			check(b, other)
			other[d(len(l))] = someParcel(d, b)
			check(b, other)
			check(b, append(other, someParcel(d, b)))
		})
	})
	if are[true] < 1000 || are[false] < 1000 {
		t.Errorf("divisions, and others: %v", are)
	}
}

// P6.2, P6.3, P6.7: of all divisions none costs less than the one that is told, none that costs as much has fewer parcels, and none has fewer than Few says; there is one just if no piece is too big.
func TestP6_7EachPieceInOneParcel(t *testing.T) {
	var met struct{ none, same, fewer int }
	eachBook(t, 400, 5, func(d sample.Dice, b api.ParcelBook) {
		zone := d(api.ParcelZones)
		f := plainFound(b, everything(b), zone)
		l, e := parcel.Cheapest(b, zone)
		cost, c := parcel.Cost(b, zone)
		few, w := parcel.Few(b)
		big, g := parcel.Big(b)
		if g != api.OK || (len(big) == 0) != (f.divisions > 0) {
			t.Fatalf("Big of %v: %v, %d, but it has %d divisions", b, big, g, f.divisions)
		}
		if f.divisions == 0 {
			met.none++
			if len(l) > 0 || e != api.ErrNone || cost != 0 || c != e || few != 0 || w != e {
				t.Fatalf("of %v, %d: %v, %d, %d, %d, %d, %d, but there is no division", b, zone, l, e, cost, c, few, w)
			}
			return
		}
		if f.differently > 1 {
			met.same++
		}
		if f.few < f.many {
			met.fewer++
		}
		sum := 0
		for _, p := range l {
			postage, _ := parcel.Postage(b, p, zone)
			sum += postage
		}
		if is, _ := parcel.IsDivision(b, l); !is || !plainIsDivision(b, l) || e != api.OK || sum != f.cost || len(l) != f.many {
			t.Fatalf("Cheapest of %v, %d: %v, %d, for %d, not %v", b, zone, l, e, sum, f)
		}
		if cost != f.cost || c != api.OK || few != f.few || w != api.OK {
			t.Fatalf("of %v, %d: %d, %d, %d, %d, not %v", b, zone, cost, c, few, w, f)
		}
	})
	if met.none < 20 || met.same < 20 || met.fewer < 20 {
		t.Errorf("too few books without a division, with several as good ones, or with fewer parcels that cost more: %v", met)
	}
}

// P6.3: which pieces fit into no parcel.
func TestP6_3TooBig(t *testing.T) {
	many := map[int]int{}
	eachBook(t, 400, api.ParcelPieces, func(d sample.Dice, b api.ParcelBook) {
		for i := range b.Kinds {
			b.Kinds[i].Room, b.Kinds[i].Most = 4+d(8), 4+d(8)
		}
		var want []int
		for number := range b.Pieces {
			if f := plainFound(b, list(number), 0); f.divisions == 0 {
				want = append(want, number)
			}
		}
		many[len(want)]++
		if got, e := parcel.Big(b); !slices.Equal(got, want) || e != api.OK {
			t.Fatalf("Big of %v: %v, %d, not %v", b, got, e, want)
		}
	})
	if many[0] < 50 || many[1] < 20 || many[2] < 5 {
		t.Errorf("too few books with none, one or two pieces that are too big: %v", many)
	}
}

// prices are what things cost of a book: more than anything can, if it cannot be.
func prices(b api.ParcelBook) [api.ParcelZones + 1]int {
	var costs [api.ParcelZones + 1]int
	for zone := range api.ParcelZones {
		cost, e := parcel.Cost(b, zone)
		if e == api.ErrNone {
			cost = 1 << 40
		}
		costs[zone] = cost
	}
	few, e := parcel.Few(b)
	if e == api.ErrNone {
		few = 1 << 40
	}
	costs[api.ParcelZones] = few
	return costs
}

// better makes books in which something is easier, if they are valid still.
func better(d sample.Dice, b api.ParcelBook) []api.ParcelBook {
	var books []api.ParcelBook
	for _, do := range []func(g *api.ParcelBook){
		func(g *api.ParcelBook) { i := d(len(g.Pieces)); g.Pieces = slices.Delete(g.Pieces, i, i+1) },
		func(g *api.ParcelBook) { g.Kinds[d(len(g.Kinds))].Zones[d(api.ParcelZones)]-- },
		func(g *api.ParcelBook) { g.Kinds[d(len(g.Kinds))].Step-- },
		func(g *api.ParcelBook) { g.Fee-- },
		func(g *api.ParcelBook) { g.Kinds[d(len(g.Kinds))].Room += 1 + d(9) },
		func(g *api.ParcelBook) { g.Kinds[d(len(g.Kinds))].Most += 1 + d(9) },
		func(g *api.ParcelBook) { g.Kinds = append(g.Kinds, someBook(d, 1).Kinds[0]) },
	} {
		g := clone(b)
		if do(&g); parcel.Check(g) == api.OK {
			books = append(books, g)
		}
	}
	return books
}

// P6.8: if something is easier nothing costs more.
func TestP6_8NothingCostsMore(t *testing.T) {
	changed := 0
	eachBook(t, 200, api.ParcelPieces, func(d sample.Dice, b api.ParcelBook) {
		before := prices(b)
		for _, g := range better(d, b) {
			now := prices(g)
			for i, cost := range now {
				if cost > before[i] {
					t.Fatalf("%v costs %v, but %v costs %v", b, before, g, now)
				}
			}
			if now != before {
				changed++
			}
		}
	})
	if changed < 200 {
		t.Errorf("only %d books cost less", changed)
	}
}

// P6.4: the stamps are the best ones of all.
func TestP6_4AllStamps(t *testing.T) {
	more := 0
	eachBook(t, 400, 1, func(d sample.Dice, b api.ParcelBook) {
		cents := d(40)
		want := plainStamps(b.Stamps, cents)
		if got, e := parcel.Stamp(b, cents); !slices.Equal(got, want) || e != api.OK {
			t.Fatalf("Stamp of %v, %d: %v, %d, not %v", b.Stamps, cents, got, e, want)
		}
		if worth, _ := worthOf(b.Stamps, want); worth > cents {
			more++
		}
	})
	if more < 30 {
		t.Errorf("only %d times the stamps are worth more", more)
	}
}

// P6.9: the stamps for any cents are enough, nothing between is worth less, and without any one of them it is not enough.
func TestP6_9ToTheLastStamp(t *testing.T) {
	eachBook(t, 60, 1, func(d sample.Dice, b api.ParcelBook) {
		cents := d(20001)
		told, e := parcel.Stamp(b, cents)
		if len(told) != len(b.Stamps) || e != api.OK {
			t.Fatalf("Stamp of %v, %d: %v, %d", b.Stamps, cents, told, e)
		}
		worth, _ := worthOf(b.Stamps, told)
		can := map[int]bool{0: true}
		for n := 1; n <= worth; n++ {
			can[n] = slices.ContainsFunc(b.Stamps, func(value int) bool { return n >= value && can[n-value] })
		}
		for n := cents; n < worth; n++ {
			if can[n] {
				t.Fatalf("Stamp of %v, %d: %v, but %d can be", b.Stamps, cents, told, n)
			}
		}
		if worth < cents || !can[worth] {
			t.Fatalf("Stamp of %v, %d: %v is %d", b.Stamps, cents, told, worth)
		}
		for i, n := range told {
			if n < 0 || n > 0 && worth-b.Stamps[i] >= cents {
				t.Fatalf("Stamp of %v, %d: %v has one of %d too many", b.Stamps, cents, told, b.Stamps[i])
			}
		}
	})
}

// P6.5: the pieces that are sent are the best ones of all lists of pieces that can be.
func TestP6_5AllLists(t *testing.T) {
	some := map[bool]int{}
	eachBook(t, 400, 4, func(d sample.Dice, b api.ParcelBook) {
		zone, cents := d(api.ParcelZones), d(25)
		want := plainSend(b, zone, cents)
		some[0 < len(want) && len(want) < len(b.Pieces)]++
		if got, e := parcel.Send(b, zone, cents); !slices.Equal(got, want) || e != api.OK {
			t.Fatalf("Send of %v, %d, %d: %v, %d, not %v", b, zone, cents, got, e, want)
		}
	})
	if some[true] < 100 {
		t.Errorf("lists of some pieces, and of all or none: %v", some)
	}
}

// P6.10: for more cents no less worth is sent, and what is sent can be; for the cost of all everything is.
func TestP6_10MoreForMore(t *testing.T) {
	all := 0
	eachBook(t, 60, api.ParcelPieces, func(d sample.Dice, b api.ParcelBook) {
		zone := d(api.ParcelZones)
		most := 0
		for cents := range 40 {
			pieces, e := parcel.Send(b, zone, cents)
			worth := 0
			part := b
			part.Pieces = nil
			for _, number := range pieces {
				worth += b.Pieces[number].Worth
				part.Pieces = append(part.Pieces, b.Pieces[number])
			}
			if worth < most || e != api.OK {
				t.Fatalf("Send of %v, %d, %d: %v, %d, but for less %d", b, zone, cents, pieces, e, most)
			}
			most = worth
			if cost, e := parcel.Cost(part, zone); len(pieces) > 0 && (cost > cents || e != api.OK) {
				t.Fatalf("Send of %v, %d, %d: %v, but they cost %d, %d", b, zone, cents, pieces, cost, e)
			}
		}
		if cost, e := parcel.Cost(b, zone); e == api.OK {
			all++
			if pieces, e := parcel.Send(b, zone, cost); !slices.Equal(pieces, everything(b)) || e != api.OK {
				t.Fatalf("Send of %v, %d, %d: %v, %d, not everything", b, zone, cost, pieces, e)
			}
		}
	})
	if all < 30 {
		t.Errorf("only %d books of which everything can be sent", all)
	}
}

// P6.11: two that fit together cost no less than either one by itself.
func TestP6_11TwoCostNoLess(t *testing.T) {
	pairs := 0
	eachBook(t, 400, api.ParcelPieces, func(d sample.Dice, b api.ParcelBook) {
		for kind := range b.Kinds {
			for other := range b.Pieces {
				for one := range other {
					zone := d(api.ParcelZones)
					both, e := parcel.Postage(b, pack(kind, one, other), zone)
					if e != api.OK {
						continue
					}
					pairs++
					first, f := parcel.Postage(b, pack(kind, one), zone)
					second, g := parcel.Postage(b, pack(kind, other), zone)
					if f != api.OK || g != api.OK || both < first || both < second {
						t.Fatalf("of %v the pieces %d and %d cost %d in the kind %d, but by themselves %d, %d and %d, %d", b, one, other, both, kind, first, f, second, g)
					}
				}
			}
		}
	})
	if pairs < 500 {
		t.Errorf("only %d pairs of pieces fit together", pairs)
	}
}

func usual() question {
	return question{clonePacks(packs(pack(1, 0, 1, 3)))[0], clonePacks(packs(pack(0, 2), pack(1, 0, 1, 3))), 0, 33}
}

// P6.6: arguments are only read, also where there is free room behind them.
func TestP6_6ArgumentsAreOnlyRead(t *testing.T) {
	b, before, q := clone(example()), example(), usual()
	a := askAll(b, q)
	if a.errnos != (errnos{}) || !a.fits || !a.is {
		t.Fatalf("an error: %v", a)
	}
	if !reflect.DeepEqual(b, before) || !reflect.DeepEqual(q, usual()) {
		t.Errorf("an argument was changed: %v, %v", b, q)
	}
	if b.Pieces[:5][4].Size != -1 || b.Kinds[:3][2].Room != -1 || b.Stamps[:5][4] != -1 || q.parcel.Pieces[:4][3] != -1 || q.parcels[:3][2].Kind != -1 {
		t.Errorf("something was written behind a list: %v, %v", b, q)
	}
	for _, k := range b.Kinds {
		if k.Zones[:6][5] != -1 {
			t.Errorf("something was written behind the zones %v", k.Zones[:6])
		}
	}
	for _, p := range q.parcels {
		if n := len(p.Pieces); p.Pieces[:n+1][n] != -1 {
			t.Errorf("something was written behind the pieces %v", p.Pieces[:n+1])
		}
	}
}

// P6.6: arguments are not retained, and results are new memory, each list its own.
func TestP6_6ResultsAreNewMemory(t *testing.T) {
	b, q := clone(example()), usual()
	b.Pieces = append(b.Pieces, piece(90, 1, 1))
	part := clone(example())
	want, got := askAll(part, q), askAll(part, q)
	big, _ := parcel.Big(b)
	for i, p := range got.cheapest {
		clear(p.Pieces[:cap(p.Pieces)])
		for k, other := range got.cheapest {
			if k > i && !slices.Equal(other.Pieces, want.cheapest[k].Pieces) {
				t.Errorf("the pieces of two parcels share memory: %v", got.cheapest)
			}
		}
	}
	for _, l := range [][]int{got.stamp, got.send, big} {
		clear(l[:cap(l)])
	}
	clear(got.cheapest[:cap(got.cheapest)])
	if again := askAll(part, q); !reflect.DeepEqual(again, want) {
		t.Errorf("after results were changed: %v, not %v", again, want)
	}
	if again, _ := parcel.Big(b); !slices.Equal(again, list(4)) {
		t.Errorf("Big, after a result was changed: %v", again)
	}
	held := askAll(part, q)
	part.Pieces[0], part.Kinds[1].Zones[0], part.Stamps[3] = piece(1, 1, 9000), 21, 11
	q.parcel.Pieces[0], q.parcels[0].Kind = 1, 1
	if !reflect.DeepEqual(held, want) {
		t.Errorf("after the arguments were changed: %v, not %v", held, want)
	}
	if reflect.DeepEqual(askAll(part, usual()), want) {
		t.Errorf("a changed book answers as before: %v", want)
	}
}

// P1: whatever the arguments are, each function returns, and with an error all else is zero.
func TestP1_AllArguments(t *testing.T) {
	books := []api.ParcelBook{{}, example(), largest(), simple(list(9, 9), [2]int{8, 1})}
	for _, n := range extremes {
		for _, m := range extremes {
			for _, do := range []func(b *api.ParcelBook){
				numbers(n, m, 1, 1), numbers(1, 1, n, m), numbers(n, n, m, m), lastPiece(piece(n, m, n)), lastPiece(alone(1, n, m)),
				lastKind(flat(n, m, 1)), lastKind(kind(60, 3000, n, m, m, m, m, m)), lastKind(kind(60, 3000, n, 1, m)), stamps(n, m), stamps(1, n, m),
				func(b *api.ParcelBook) { b.Pieces = append(b.Pieces, slices.Repeat(b.Pieces, 5)...); b.Fee = n },
			} {
				books = append(books, changed(do))
			}
		}
	}
	for _, b := range books {
		for _, n := range extremes {
			p := pack(0, 0, n, n)
			for _, q := range []question{{pack(n, 0), packs(pack(n, 0)), n, 0}, {pack(0, n), packs(p, pack(0, n)), 0, n}, {p, packs(pack(0, 0), p), n, n}, {pack(0, 0, 1, 2, 3, 4, 5, 6, 7), packs(pack(1, 0, 1, 2, 3, 4, 5, 6, 7, n)), 0, 20000}} {
				a := askAll(b, q)
				e := a.errnos
				if !a.areZero() || a.check != api.OK && (a.check != api.ErrParcel || e.fits != a.check || e.send != a.check) {
					t.Fatalf("of %v, %v: %v", b, q, a)
				}
			}
		}
	}
}

// P1: a list of very many parcels, and a parcel of very many pieces.
func TestP1_LongLists(t *testing.T) {
	b := example()
	for _, p := range []api.ParcelParcel{pack(0, 2), pack(1, 0, 1, 3), pack(0), pack(0, 0, 1)} {
		if is, e := parcel.IsDivision(b, slices.Repeat(packs(p), 1<<20)); is || e != api.OK {
			t.Errorf("IsDivision of %v very often: %v, %d", p, is, e)
		}
	}
	for _, l := range [][]int{slices.Repeat(list(0), 1<<20), slices.Repeat(list(0, 1, 2, 3), 1<<20)} {
		if fits, e := parcel.Fits(b, pack(1, l...)); fits || e != api.ErrParcelAsk {
			t.Errorf("Fits of %d pieces: %v, %d", len(l), fits, e)
		}
	}
}

// P2: the same arguments have the same result, whatever was called before.
func TestP2_SameArgumentsSameResult(t *testing.T) {
	want := askAll(example(), usual())
	eachBook(t, 200, api.ParcelPieces, func(d sample.Dice, b api.ParcelBook) {
		q := question{someParcel(d, b), packs(someParcel(d, b), someParcel(d, b)), d(api.ParcelZones), d(50)}
		one, other := askAll(b, q), askAll(clone(b), q)
		if !one.areZero() || !reflect.DeepEqual(one, other) {
			t.Fatalf("of %v, %v: %v, then %v", b, q, one, other)
		}
		if got := askAll(example(), usual()); !reflect.DeepEqual(got, want) {
			t.Fatalf("of the example after %v: %v, not %v", b, got, want)
		}
	})
}
