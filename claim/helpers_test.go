package claim_test

import (
	"fmt"
	"math"
	"math/rand"
	"slices"
	"testing"

	"wishbook/api"
	"wishbook/claim"
	"wishbook/sample"
)

// The least numbers, and the greatest ones, and what lies around zero.
var extremes = []int{math.MinInt, math.MinInt + 1, -1, 0, 1, math.MaxInt - 1, math.MaxInt}

var span = sample.Span

func list(numbers ...int) []int { return numbers }

func lists(lists ...[]int) [][]int { return lists }

func parcel(day, weight, seal, value int) api.ClaimParcel {
	return api.ClaimParcel{Day: day, Weight: weight, Seal: seal, Value: value}
}

func box(day, low, high int, seal string) api.ClaimBox {
	return api.ClaimBox{Day: day, Weight: span(low, high), Seal: seal}
}

// stamped is a box that bears our stamp.
func stamped(b api.ClaimBox) api.ClaimBox {
	b.Stamp = true
	return b
}

// example is the desk of the chapter.
func example() api.ClaimDesk {
	return api.ClaimDesk{
		Days:    span(3, 60),
		Wear:    200,
		Strange: 1,
		Parcels: []api.ClaimParcel{parcel(100, 1500, 417, 900), parcel(100, 1600, 447, 300), parcel(130, 900, 52, 500)},
		Boxes:   []api.ClaimBox{box(120, 1400, 1450, "04?7"), stamped(box(150, 1550, 1600, "")), box(135, 700, 720, "0?52")},
	}
}

// sealed is parcels, worth 1, 2, 4, 8 and so on, and boxes that are known by their seals alone.
func sealed(strange int, parcels []int, boxes ...string) api.ClaimDesk {
	d := api.ClaimDesk{Strange: strange}
	for i, seal := range parcels {
		d.Parcels = append(d.Parcels, parcel(0, 0, seal, 1<<i))
	}
	for _, seal := range boxes {
		d.Boxes = append(d.Boxes, box(0, 0, 0, seal))
	}
	return d
}

// loose is so many parcels, and so many boxes, each of which can be each parcel.
func loose(strange, parcels, boxes int) api.ClaimDesk {
	return sealed(strange, make([]int, parcels), make([]string, boxes)...)
}

// stamps is a desk some of whose boxes bear stamps, and no others.
func stamps(d api.ClaimDesk, boxes ...int) api.ClaimDesk {
	d = clone(d)
	for i := range d.Boxes {
		d.Boxes[i].Stamp = slices.Contains(boxes, i)
	}
	return d
}

// largest is a valid desk with as many things as there can be, and the greatest numbers.
func largest() api.ClaimDesk {
	return api.ClaimDesk{
		Days:    span(0, api.ClaimTerm),
		Wear:    api.ClaimWear,
		Strange: api.ClaimBoxes,
		Parcels: slices.Repeat([]api.ClaimParcel{parcel(api.ClaimDay, api.ClaimWeight, api.ClaimSeal, api.ClaimValue)}, api.ClaimParcels),
		Boxes:   slices.Repeat([]api.ClaimBox{box(api.ClaimDay, api.ClaimWeight, api.ClaimWeight, "9999")}, api.ClaimBoxes),
	}
}

// clone copies a desk wholly, and leaves free room behind each list, with what no valid desk has.
func clone(d api.ClaimDesk) api.ClaimDesk {
	d.Parcels = sample.Roomy(d.Parcels, parcel(-1, -1, -1, -1))
	d.Boxes = sample.Roomy(d.Boxes, stamped(box(-1, 0, -1, "-")))
	return d
}

// someSeal returns some seal with few different digits.
func someSeal(d sample.Dice) int { return d(2)*1000 + d(2)*10 + d(3) }

func someParcel(d sample.Dice) api.ClaimParcel {
	return parcel(d(8), d(12), someSeal(d), d(10))
}

// someBox returns some box, which often can be some parcel of the desk.
func someBox(d sample.Dice, desk api.ClaimDesk) api.ClaimBox {
	p := someParcel(d)
	if n := len(desk.Parcels); n > 0 && d(5) > 0 {
		p = desk.Parcels[d(n)]
	}
	b := box(p.Day+d(5), 0, 0, fmt.Sprintf("%04d", p.Seal))
	b.Weight.Low = max(0, p.Weight-d(5))
	b.Weight.High = b.Weight.Low + d(4)
	seal := []byte(b.Seal)
	for i := range seal {
		if d(2) == 0 {
			seal[i] = '?'
		}
	}
	if b.Seal = string(seal); d(4) == 0 {
		b.Seal = ""
	}
	b.Stamp = d(3) == 0
	return b
}

// someDesk returns some valid desk, with small numbers, so that often a box can be several parcels.
func someDesk(d sample.Dice, parcels, boxes int) api.ClaimDesk {
	desk := api.ClaimDesk{Days: span(d(2), 1+d(6)), Wear: d(5), Strange: min(d(4), d(7))}
	for range d(parcels + 1) {
		desk.Parcels = append(desk.Parcels, someParcel(d))
	}
	for range d(boxes + 1) {
		desk.Boxes = append(desk.Boxes, someBox(d, desk))
	}
	return desk
}

// eachDesk does something with the example, and with many random desks, always the same ones.
func eachDesk(t *testing.T, many, parcels, boxes int, do func(d sample.Dice, desk api.ClaimDesk)) {
	t.Helper()
	rnd := rand.New(rand.NewSource(9))
	do(rnd.Intn, example())
	for range many {
		desk := someDesk(rnd.Intn, parcels, boxes)
		if e := claim.Check(desk); e != api.OK {
			t.Fatalf("Check of the valid desk %v: %d", desk, e)
		}
		do(rnd.Intn, desk)
	}
}

// plainCould is what the definition says of a box and a parcel, word by word.
func plainCould(d api.ClaimDesk, b api.ClaimBox, p api.ClaimParcel) bool {
	inTime, hasWeight, hasSeal := false, false, true
	for days := d.Days.Low; days <= d.Days.High; days++ {
		inTime = inTime || b.Day == p.Day+days
	}
	for grams := b.Weight.Low; grams <= b.Weight.High; grams++ {
		hasWeight = hasWeight || grams <= p.Weight && grams >= p.Weight-d.Wear
	}
	seal := fmt.Sprintf("%04d", p.Seal)
	for i, sign := range b.Seal {
		hasSeal = hasSeal && (sign == '?' || sign == rune(seal[i]))
	}
	return inTime && hasWeight && hasSeal
}

// plainIsTruth is what the definition says of parcels, word by word.
func plainIsTruth(d api.ClaimDesk, parcels []int) bool {
	if len(parcels) != len(d.Boxes) {
		return false
	}
	strange := 0
	for i, p := range parcels {
		switch {
		case p == -1 && d.Boxes[i].Stamp:
			return false
		case p == -1:
			strange++
		case p < 0 || p >= len(d.Parcels) || slices.Contains(parcels[:i], p) || !plainCould(d, d.Boxes[i], d.Parcels[p]):
			return false
		}
	}
	return strange <= d.Strange
}

// plainTruths is all truths of a desk: of all lists in which each box is a parcel that it can be, or strange.
func plainTruths(d api.ClaimDesk) [][]int {
	var truths [][]int
	var add func(parcels []int)
	add = func(parcels []int) {
		i := len(parcels)
		if i == len(d.Boxes) {
			if plainIsTruth(d, parcels) {
				truths = append(truths, slices.Clone(parcels))
			}
			return
		}
		for p := -1; p < len(d.Parcels); p++ {
			if p < 0 || plainCould(d, d.Boxes[i], d.Parcels[p]) {
				add(append(parcels, p))
			}
		}
	}
	add(nil)
	return truths
}

// members is the numbers of a set.
func members(set int) []int {
	var list []int
	for n := range api.ClaimParcels {
		if set>>n%2 == 1 {
			list = append(list, n)
		}
	}
	return list
}

// whichOf is all parcels, increasing, that a box is in some truth, and -1 ahead of them, if it is strange in some.
func whichOf(truths [][]int, box int) []int {
	var which []int
	for _, parcels := range truths {
		which = append(which, parcels[box])
	}
	slices.Sort(which)
	return slices.Compact(which)
}

// toldOf is what all truths say of a box.
func toldOf(truths [][]int, box int) int {
	which := whichOf(truths, box)
	switch {
	case which[0] >= 0:
		return api.ClaimOurs
	case len(which) == 1:
		return api.ClaimStrange
	}
	return api.ClaimOpen
}

// backOf is which parcels are back in all truths, and which others in some.
func backOf(truths [][]int) (surely, perhaps []int) {
	for p := range api.ClaimParcels {
		many := 0
		for _, parcels := range truths {
			if slices.Contains(parcels, p) {
				many++
			}
		}
		switch {
		case many == len(truths):
			surely = append(surely, p)
		case many > 0:
			perhaps = append(perhaps, p)
		}
	}
	return surely, perhaps
}

// worthOf is what all parcels are worth in a truth.
func worthOf(d api.ClaimDesk, parcels []int) int {
	worth := 0
	for _, p := range parcels {
		if p >= 0 {
			worth += d.Parcels[p].Value
		}
	}
	return worth
}

// without is the desk without a box, and without a parcel: -1 is none, but a strange box fewer.
func without(d api.ClaimDesk, box, parcel int) api.ClaimDesk {
	d = clone(d)
	d.Boxes = slices.Delete(d.Boxes, box, box+1)
	if parcel < 0 {
		d.Strange--
	} else {
		d.Parcels = slices.Delete(d.Parcels, parcel, parcel+1)
	}
	return d
}
