package letter

import (
	"wishbook/api"
	"wishbook/spans"
)

// line is a line of the letter in the calculation.
type line struct{ api.LetterLine }

// place is a book of the rack, and a number in it.
type place struct{ issue, number int }

// digits is which digits can be read at a place of a number.
type digits [10]bool

func digitsOf(set int) digits {
	var can digits
	for digit := range can {
		can[digit] = set>>digit&1 == 1
	}
	return can
}

func (d digits) count() int {
	n := 0
	for _, can := range d {
		if can {
			n++
		}
	}
	return n
}

func coloursOf(set int) []int {
	var list []int
	for colour := range api.BookColours {
		if set>>colour&1 == 1 {
			list = append(list, colour)
		}
	}
	return list[:len(list):len(list)]
}

// numbers returns the numbers that can be read.
func (l line) numbers() []int {
	var list []int
	var read func(number int, rest []int)
	read = func(number int, rest []int) {
		if len(rest) == 0 {
			list = append(list, number)
			return
		}
		for digit, can := range digitsOf(rest[0]) {
			// What was read is 0 at the first digit alone, which is not 0 itself.
			if can && number+digit > 0 {
				read(10*number+digit, rest[1:len(rest):len(rest)])
			}
		}
	}
	read(0, l.Digits)
	return list[:len(list):len(list)]
}

// readings returns the lines of a book that can be read in this one.
func (l line) readings(entries map[place]api.BookEntry, issue int) []api.BookLine {
	var list []api.BookLine
numbers:
	for _, number := range l.numbers() {
		e, ok := entries[place{issue, number}]
		if !ok {
			continue numbers
		}
		for _, item := range items(e, e.Colours&l.Colours, l.isSize) {
			for i := range spans.Count(l.Many) {
				list = append(list, api.BookLine{Item: item, Many: l.Many.Low + i})
			}
		}
	}
	return list[:len(list):len(list)]
}

// isSize reports whether a size can be meant.
func (l line) isSize(f api.BookFit) bool {
	if len(l.Sizes) == 0 {
		return spans.Meet(f.Foot, l.Foot)
	}
	for _, size := range l.Sizes {
		if size == f.Size {
			return true
		}
	}
	return false
}

func items(e api.BookEntry, colours int, isSize func(api.BookFit) bool) []api.BookItem {
	var list []api.BookItem
	for _, f := range e.Sizes {
		if !isSize(f) {
			continue
		}
		for _, colour := range coloursOf(colours) {
			list = append(list, api.BookItem{Good: e.Good, Size: f.Size, Colour: colour})
		}
	}
	return list[:len(list):len(list)]
}
