package sample

import (
	"slices"

	"wishbook/api"
)

// Pieces is some lines of a slip: a shelf and how many pieces of it, and so on.
func Pieces(numbers ...int) []api.SlipLine {
	var list []api.SlipLine
	for pair := range slices.Chunk(numbers, 2) {
		list = append(list, api.SlipLine{Shelf: pair[0], Many: pair[1]})
	}
	return list
}

// Slip is a slip.
func Slip(until int, numbers ...int) api.SlipSlip {
	return api.SlipSlip{Lines: Pieces(numbers...), Until: until}
}

// Floor is the floor of the chapter on slips.
func Floor() api.SlipFloor {
	return api.SlipFloor{
		Far:   []int{10, 25, 40},
		Step:  Span(1, 2),
		Pick:  []api.Span{Span(5, 8), Span(5, 10), Span(10, 12)},
		Carry: 4,
		Slips: []api.SlipSlip{Slip(300, 0, 2, 2, 3), Slip(200, 1, 4), Slip(120, 0, 1), Slip(900, 1, 1, 2, 6)},
	}
}

// LargestFloor is a valid floor with as many things as there can be, and the greatest numbers: a slip takes 240000 steps, and up to 2472000 seconds.
func LargestFloor() api.SlipFloor {
	f := api.SlipFloor{Step: Span(api.SlipStep, api.SlipStep), Carry: 1}
	var lines []api.SlipLine
	for shelf := range api.SlipShelves {
		f.Far = append(f.Far, api.SlipFar)
		f.Pick = append(f.Pick, Span(api.SlipPick, api.SlipPick))
		lines = append(lines, api.SlipLine{Shelf: shelf, Many: api.SlipPieces})
	}
	for range api.SlipSlips {
		f.Slips = append(f.Slips, api.SlipSlip{Lines: slices.Clone(lines), Until: api.SlipSecond})
	}
	return f
}

// CopyFloor copies a floor wholly, and leaves free room behind each list, with what no valid floor has.
func CopyFloor(f api.SlipFloor) api.SlipFloor {
	f.Far = Roomy(f.Far, -1)
	f.Pick = Roomy(f.Pick, Span(-1, -2))
	f.Slips = Roomy(f.Slips, api.SlipSlip{Until: -1})
	for i := range f.Slips {
		f.Slips[i].Lines = Roomy(f.Slips[i].Lines, api.SlipLine{Shelf: -1})
	}
	return f
}

// Floor returns some valid floor of at most so many slips.
func (d Dice) Floor(slips int) api.SlipFloor {
	f := api.SlipFloor{Step: d.Span(1, 3), Carry: 1 + d(4)}
	far := d(3)
	for range 1 + d(4) {
		f.Far = append(f.Far, far)
		f.Pick = append(f.Pick, d.Span(0, 4))
		far += d(4)
	}
	for range d(slips + 1) {
		f.Slips = append(f.Slips, d.slip(f))
	}
	return f
}

// Roster gives so many slips to some pickers.
func (d Dice) Roster(slips int) [][]int {
	lists := make([][]int, 1+d(api.SlipPickers))
	for _, s := range d.Order(slips) {
		to := d(len(lists))
		lists[to] = append(lists[to], s)
	}
	return lists
}

// slip returns some slip of at most 3 pieces of each shelf; pieces of one shelf at least. Mostly there is time to have it done.
func (d Dice) slip(f api.SlipFloor) api.SlipSlip {
	var s api.SlipSlip
	sure, seconds := d(len(f.Far)), 0
	for shelf, far := range f.Far {
		if shelf != sure && d(2) == 0 {
			continue
		}
		l := api.SlipLine{Shelf: shelf, Many: 1 + d(3)}
		tours := (l.Many + f.Carry - 1) / f.Carry
		seconds += tours*2*far*f.Step.High + l.Many*f.Pick[shelf].High
		s.Lines = append(s.Lines, l)
	}
	s.Until = d(seconds + 1)
	if d(8) > 0 {
		s.Until += seconds
	}
	return s
}
