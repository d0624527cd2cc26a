package parcel_test

import (
	"cmp"
	"math"
	"math/rand"
	"slices"
	"testing"

	"wishbook/api"
	"wishbook/parcel"
	"wishbook/sample"
)

// The least numbers, and the greatest ones, and what lies around zero.
var extremes = []int{math.MinInt, math.MinInt + 1, -1, 0, 1, math.MaxInt - 1, math.MaxInt}

func list(numbers ...int) []int { return numbers }

func piece(size, weight, worth int) api.ParcelPiece {
	return api.ParcelPiece{Size: size, Weight: weight, Worth: worth}
}

// alone is a piece that must go by itself.
func alone(size, weight, worth int) api.ParcelPiece {
	return api.ParcelPiece{Size: size, Weight: weight, Worth: worth, Alone: true}
}

func kind(room, most, step int, zones ...int) api.ParcelKind {
	return api.ParcelKind{Room: room, Most: most, Zones: zones, Step: step}
}

// flat is a kind that costs the same in each zone, whatever its weight.
func flat(room, most, price int) api.ParcelKind {
	return kind(room, most, 0, price, price, price, price, price)
}

func pack(kind int, pieces ...int) api.ParcelParcel {
	return api.ParcelParcel{Kind: kind, Pieces: pieces}
}

func packs(parcels ...api.ParcelParcel) []api.ParcelParcel { return parcels }

// example is the book of the chapter.
func example() api.ParcelBook {
	return api.ParcelBook{
		Pieces: []api.ParcelPiece{piece(10, 500, 300), piece(20, 800, 1200), alone(5, 200, 100), piece(30, 1500, 2000)},
		Kinds:  []api.ParcelKind{kind(25, 1000, 2, 10, 12, 14, 16, 18), kind(60, 3000, 5, 20, 24, 28, 32, 36)},
		Grams:  500, Free: 1000, Unit: 1000, Fee: 3,
		Stamps: list(1, 2, 5, 10),
	}
}

// simple is a book of pieces that take their numbers of room, weigh a gram and are not insured; of kinds that take a number of room and cost another one.
func simple(sizes []int, kinds ...[2]int) api.ParcelBook {
	b := api.ParcelBook{Grams: 1000, Free: api.ParcelWorth, Unit: 1, Stamps: list(1)}
	for _, size := range sizes {
		b.Pieces = append(b.Pieces, piece(size, 1, 10*size))
	}
	for _, k := range kinds {
		b.Kinds = append(b.Kinds, flat(k[0], api.ParcelWeight, k[1]))
	}
	return b
}

// largest is a valid book with as many things as there can be, and the greatest numbers: each piece goes by itself, for 15000000.
func largest() api.ParcelBook {
	b := api.ParcelBook{Grams: 1, Unit: 1, Fee: api.ParcelPrice}
	for range api.ParcelPieces {
		b.Pieces = append(b.Pieces, piece(api.ParcelSize, api.ParcelWeight, api.ParcelWorth))
	}
	for range api.ParcelKinds {
		k := flat(api.ParcelSize, api.ParcelWeight, api.ParcelPrice)
		k.Step = api.ParcelPrice
		b.Kinds = append(b.Kinds, k)
	}
	for i := range api.ParcelStamps {
		b.Stamps = append(b.Stamps, api.ParcelPrice-api.ParcelStamps+1+i)
	}
	return b
}

// clone copies a book wholly, and leaves free room behind each list, with what no valid book has.
func clone(b api.ParcelBook) api.ParcelBook {
	b.Pieces = sample.Roomy(b.Pieces, piece(-1, -1, -1))
	b.Kinds = sample.Roomy(b.Kinds, kind(-1, -1, -1))
	b.Stamps = sample.Roomy(b.Stamps, -1)
	for i := range b.Kinds {
		b.Kinds[i].Zones = sample.Roomy(b.Kinds[i].Zones, -1)
	}
	return b
}

func clonePacks(l []api.ParcelParcel) []api.ParcelParcel {
	l = sample.Roomy(l, pack(-1))
	for i := range l {
		l[i].Pieces = sample.Roomy(l[i].Pieces, -1)
	}
	return l
}

// someBook returns some valid book of at most so many pieces, of small numbers, so that often several things are as good. In most of them no piece is too big.
func someBook(d sample.Dice, pieces int) api.ParcelBook {
	b := api.ParcelBook{Grams: 1 + d(6), Free: d(12), Unit: 1 + d(6), Fee: d(4)}
	for range 1 + d(pieces) {
		p := piece(1+d(10), 1+d(10), d(8))
		p.Alone = d(6) == 0
		b.Pieces = append(b.Pieces, p)
	}
	for range 1 + d(api.ParcelKinds) {
		k := kind(6+d(20), 6+d(20), d(3))
		for range api.ParcelZones {
			k.Zones = append(k.Zones, 1+d(9))
		}
		b.Kinds = append(b.Kinds, k)
	}
	value := 0
	for range 1 + d(api.ParcelStamps) {
		value += 1 + d(9)
		b.Stamps = append(b.Stamps, value)
	}
	return b
}

// eachBook does something with the example, and with many random books, always the same ones.
func eachBook(t *testing.T, many, pieces int, do func(d sample.Dice, b api.ParcelBook)) {
	t.Helper()
	rnd := rand.New(rand.NewSource(6))
	do(rnd.Intn, example())
	for range many {
		b := someBook(rnd.Intn, pieces)
		if e := parcel.Check(b); e != api.OK {
			t.Fatalf("Check of the valid book %v: %d", b, e)
		}
		do(rnd.Intn, b)
	}
}

// someParcel returns some parcel of a book, whether it fits or not.
func someParcel(d sample.Dice, b api.ParcelBook) api.ParcelParcel {
	p := pack(d(len(b.Kinds)))
	for p.Pieces == nil {
		p.Pieces = members(d(1 << len(b.Pieces)))
	}
	return p
}

// members is the numbers of a set.
func members(set int) []int {
	var list []int
	for n := range api.ParcelPieces {
		if set>>n%2 == 1 {
			list = append(list, n)
		}
	}
	return list
}

// plainFits is what the definition says of a parcel, word by word.
func plainFits(b api.ParcelBook, p api.ParcelParcel) bool {
	room, weight := b.Kinds[p.Kind].Room, b.Kinds[p.Kind].Most
	for _, number := range p.Pieces {
		room -= b.Pieces[number].Size
		weight -= b.Pieces[number].Weight
		if b.Pieces[number].Alone && len(p.Pieces) > 1 {
			return false
		}
	}
	return room >= 0 && weight >= 0
}

// plainPostage is what a parcel costs, step by step.
func plainPostage(b api.ParcelBook, p api.ParcelParcel, zone int) int {
	weight, worth := 0, 0
	for _, number := range p.Pieces {
		weight += b.Pieces[number].Weight
		worth += b.Pieces[number].Worth
	}
	cents := b.Kinds[p.Kind].Zones[zone]
	for gram := b.Grams; gram < weight; gram += b.Grams {
		cents += b.Kinds[p.Kind].Step
	}
	for insured := b.Free; insured < worth; insured += b.Unit {
		cents += b.Fee
	}
	return cents
}

// plainIsDivision is what the definition says of a list of parcels, word by word.
func plainIsDivision(b api.ParcelBook, l []api.ParcelParcel) bool {
	var times [api.ParcelPieces]int
	for _, p := range l {
		if !plainFits(b, p) {
			return false
		}
		for _, number := range p.Pieces {
			times[number]++
		}
	}
	for number := range b.Pieces {
		if times[number] != 1 {
			return false
		}
	}
	return true
}

// eachDivision does something with all divisions of some pieces: each piece is put into one of the parcels of those before it, or begins one of any kind.
func eachDivision(b api.ParcelBook, pieces []int, do func([]api.ParcelParcel)) {
	var put func(l []api.ParcelParcel, left []int)
	put = func(l []api.ParcelParcel, left []int) {
		if len(left) == 0 {
			for _, p := range l {
				if !plainFits(b, p) {
					return
				}
			}
			do(l)
			return
		}
		for i, p := range l {
			more := slices.Clone(l)
			more[i].Pieces = append(slices.Clone(p.Pieces), left[0])
			put(more, left[1:])
		}
		for kind := range b.Kinds {
			put(append(slices.Clone(l), pack(kind, left[0])), left[1:])
		}
	}
	put(nil, pieces)
}

// found is what is so of all divisions of some pieces.
type found struct {
	divisions   int
	cost, many  int // what the cheapest one costs, and how few parcels one has that costs as much
	few         int // how few parcels one has
	differently int // how many cost as much, in as few parcels
}

func plainFound(b api.ParcelBook, pieces []int, zone int) found {
	var f found
	eachDivision(b, pieces, func(l []api.ParcelParcel) {
		cost := 0
		for _, p := range l {
			cost += plainPostage(b, p, zone)
		}
		better := cmp.Or(cmp.Compare(cost, f.cost), cmp.Compare(len(l), f.many))
		if f.divisions == 0 || better < 0 {
			f.cost, f.many, f.differently = cost, len(l), 0
			better = 0
		}
		if better == 0 {
			f.differently++
		}
		if f.divisions == 0 || len(l) < f.few {
			f.few = len(l)
		}
		f.divisions++
	})
	return f
}

// everything is the numbers of all pieces of a book.
func everything(b api.ParcelBook) []int { return members(1<<len(b.Pieces) - 1) }

// plainSend is the best of all lists of pieces that can be sent for so many cents.
func plainSend(b api.ParcelBook, zone, cents int) []int {
	worth := func(pieces []int) int {
		sum := 0
		for _, number := range pieces {
			sum += b.Pieces[number].Worth
		}
		return sum
	}
	var best []int
	for set := range 1 << len(b.Pieces) {
		pieces := members(set)
		f := plainFound(b, pieces, zone)
		if f.divisions == 0 || f.cost > cents {
			continue
		}
		if cmp.Or(cmp.Compare(worth(best), worth(pieces)), cmp.Compare(len(best), len(pieces)), slices.Compare(pieces, best)) < 0 {
			best = pieces
		}
	}
	return best
}

// worthOf is what some stamps are worth together, and how many they are.
func worthOf(values, stamps []int) (cents, many int) {
	for i, n := range stamps {
		cents += n * values[i]
		many += n
	}
	return cents, many
}

// plainStamps is the best of all lists of stamps that are worth enough.
func plainStamps(values []int, cents int) []int {
	var best []int
	var put func(stamps []int)
	put = func(stamps []int) {
		worth, many := worthOf(values, stamps)
		if len(stamps) < len(values) {
			for n := 0; n == 0 || worth+(n-1)*values[len(stamps)] < cents; n++ {
				put(append(slices.Clone(stamps), n))
			}
			return
		}
		least, fewest := worthOf(values, best)
		if worth >= cents && (best == nil || cmp.Or(cmp.Compare(worth, least), cmp.Compare(many, fewest), slices.Compare(stamps, best)) < 0) {
			best = stamps
		}
	}
	put(nil)
	return best
}
