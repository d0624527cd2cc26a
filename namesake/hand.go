package namesake

import (
	"slices"

	"wishbook/api"
	"wishbook/lists"
	"wishbook/spans"
)

// hand is some letters of a book, in its order, of which one person may be the writer.
type hand struct {
	book
	letters []int
}

// areLetters reports whether there are letters in a hand, in the order of the book.
func (h hand) areLetters() bool {
	return lists.Are(limits[ofLetters], h.letters, h.hasLetter) && lists.AreIncreasing(h.letters)
}

// grounds is what keeps the letters of a hand apart.
func grounds() [4]func(hand) bool {
	return [...]func(hand) bool{hand.isBornApart, hand.isTooFar, hand.wroteDead, hand.isPaired}
}

func (h hand) canBeOne() bool {
	for _, keepsApart := range grounds() {
		if keepsApart(h) {
			return false
		}
	}
	return true
}

// isBornApart reports whether there is no year in which all writers can have been born.
func (h hand) isBornApart() bool {
	years := limits[ofYears]
	for i := range h.letters {
		born := h.letter(i).Born
		years = api.Span{Low: spans.Greatest(years.Low, born.Low), High: spans.Least(years.High, born.High)}
	}
	return years.Low > years.High
}

// isTooFar reports whether somebody cannot have gone from where a letter came from to where the next one did.
func (h hand) isTooFar() bool {
	for i := range len(h.letters) - 1 {
		from, to := h.letter(i), h.letter(i+1)
		if to.Day-from.Day < h.Far[from.Place][to.Place] {
			return true
		}
	}
	return false
}

// wroteDead reports whether a letter follows one that tells of a death.
func (h hand) wroteDead() bool {
	for i := range len(h.letters) - 1 {
		if h.letter(i).Dead {
			return true
		}
	}
	return false
}

// isPaired reports whether two letters are a pair that is surely of different people.
func (h hand) isPaired() bool {
	return slices.ContainsFunc(h.Apart, func(p [2]int) bool {
		return slices.Contains(h.letters, p[0]) && slices.Contains(h.letters, p[1])
	})
}

// letter returns a letter of the hand.
func (h hand) letter(i int) api.NamesakeLetter { return h.Letters[h.letters[i]] }
