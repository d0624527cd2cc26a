package letter_test

import (
	"math/rand"
	"slices"
	"strconv"
	"testing"

	"wishbook/api"
	"wishbook/book"
	"wishbook/letter"
	"wishbook/sample"
)

var (
	span = sample.Span
	fit  = sample.Fit
	item = sample.Item
	line = sample.Line
)

// lines is an order.
func lines(list ...api.BookLine) []api.BookLine { return list }

func ask(line, field int) api.LetterAsk { return api.LetterAsk{Line: line, Field: field} }

// example is the letter of the chapter.
func example() api.LetterLetter {
	return api.LetterLetter{Rack: sample.Rack(), Days: span(250, 290), Money: span(300, 1000), Lines: []api.LetterLine{
		{Digits: []int{2, 6}, Foot: span(255, 257), Colours: 3, Many: span(1, 2)},
	}}
}

// two is the example with a second line, of one or two of the good 1, and money for both.
func two() api.LetterLetter {
	l := example()
	l.Lines = append(l.Lines, api.LetterLine{Digits: []int{2, 4}, Sizes: []int{7}, Colours: 1, Many: span(1, 2)})
	l.Money = span(0, 10000)
	return l
}

// largest is a valid letter with as many things as there can be, and all the money that their prices need: each line has 4 numbers, 16 goods, 8 sizes, 2 colours, and 2 numbers of pieces.
func largest() api.LetterLetter {
	r := sample.Largest()
	for i := range r.Issues {
		for k := range r.Issues[i].Entries {
			e := &r.Issues[i].Entries[k]
			e.Number = 9999 - (e.Good+4*i)%api.BookGoods
			for n := range e.Sizes {
				e.Sizes[n].Price = 5400 - 100*e.Good - 10*n
			}
		}
		r.Issues[i].Held -= i
	}
	ln := api.LetterLine{Digits: []int{512, 512, 512, 64 + 128 + 256 + 512}, Foot: span(1, 400), Colours: 12, Many: span(999, 1000)}
	return api.LetterLetter{Rack: r, Days: span(0, api.MaxDay), Money: span(0, api.LetterMoney), Lines: []api.LetterLine{ln, ln}}
}

// clone copies a letter wholly, and leaves free room behind each list, with what no valid letter has.
func clone(l api.LetterLetter) api.LetterLetter {
	l.Rack = sample.Copy(l.Rack)
	l.Lines = append(slices.Clone(l.Lines), api.LetterLine{Colours: -1})[:len(l.Lines)]
	for k := range l.Lines {
		ln := &l.Lines[k]
		ln.Digits = append(slices.Clone(ln.Digits), -1)[:len(ln.Digits)]
		ln.Sizes = append(slices.Clone(ln.Sizes), -1)[:len(ln.Sizes)]
	}
	return l
}

// truth is an order that a letter can mean, the first and the last day on which it can, and the least and the greatest sum that it costs then.
type truth struct {
	lines []api.BookLine
	days  api.Span
	cents api.Span
}

// plain is what the definitions say that a letter can mean, word by word and day by day, in the order of orders.
func plain(l api.LetterLetter) []truth {
	var truths []truth
	for day := l.Days.Low; day <= l.Days.High; day++ {
		for _, b := range l.Rack.Issues {
			if day < b.Days.Low || day > b.Days.High {
				continue
			}
			for _, list := range plainOrders(b, l.Lines) {
				cents, e := book.Sum(l.Rack, day, list)
				if e == api.OK && l.Money.Low <= cents && cents <= l.Money.High {
					truths = add(truths, list, day, cents)
				}
			}
		}
	}
	slices.SortFunc(truths, func(one, other truth) int { return compare(one.lines, other.lines) })
	return truths
}

func add(truths []truth, list []api.BookLine, day, cents int) []truth {
	for i := range truths {
		t := &truths[i]
		if slices.Equal(t.lines, list) {
			t.days = span(min(t.days.Low, day), max(t.days.High, day))
			t.cents = span(min(t.cents.Low, cents), max(t.cents.High, cents))
			return truths
		}
	}
	return append(truths, truth{list, span(day, day), span(cents, cents)})
}

// plainOrders is all that the lines can mean by a book, whatever it costs.
func plainOrders(b api.BookIssue, rest []api.LetterLine) [][]api.BookLine {
	if len(rest) == 0 {
		return [][]api.BookLine{nil}
	}
	var list [][]api.BookLine
	for _, e := range b.Entries {
		for _, f := range e.Sizes {
			for colour := range 4 {
				for many := rest[0].Many.Low; many <= rest[0].Many.High; many++ {
					if !isRead(rest[0], e, f, colour) {
						continue
					}
					for _, behind := range plainOrders(b, rest[1:]) {
						list = append(list, append(lines(line(many, e.Good, f.Size, colour)), behind...))
					}
				}
			}
		}
	}
	return list
}

func isRead(ln api.LetterLine, e api.BookEntry, f api.BookFit, colour int) bool {
	number := strconv.Itoa(e.Number)
	if len(number) != len(ln.Digits) || e.Colours>>colour&1 == 0 || ln.Colours>>colour&1 == 0 {
		return false
	}
	for i, set := range ln.Digits {
		if set>>(number[i]-'0')&1 == 0 {
			return false
		}
	}
	if len(ln.Sizes) > 0 {
		return slices.Contains(ln.Sizes, f.Size)
	}
	for foot := ln.Foot.Low; foot <= ln.Foot.High; foot++ {
		if f.Foot.Low <= foot && foot <= f.Foot.High {
			return true
		}
	}
	return false
}

// fields is what a line says: good, size, colour, many.
func fields(l api.BookLine) []int {
	return []int{l.Item.Good, l.Item.Size, l.Item.Colour, l.Many}
}

func compare(one, other []api.BookLine) int {
	return slices.CompareFunc(one, other, func(a, b api.BookLine) int { return slices.Compare(fields(a), fields(b)) })
}

// randomLetter is some valid letter, in which mostly an entry of a book can be read; the books have numbers of one digit and of two.
func randomLetter(rnd *rand.Rand) api.LetterLetter {
	dice := sample.Dice(rnd.Intn)
	l := api.LetterLetter{Rack: dice.Rack(), Days: dice.Span(0, sample.LastDay+1)}
	for i := range l.Rack.Issues {
		for k := range l.Rack.Issues[i].Entries {
			l.Rack.Issues[i].Entries[k].Number += 10 * rnd.Intn(2)
		}
	}
	b := l.Rack.Issues[rnd.Intn(len(l.Rack.Issues))]
	if len(b.Entries) == 0 {
		b.Entries = []api.BookEntry{sample.Entry(1, 0, 1)}
	}
	for range 1 + rnd.Intn(2) {
		l.Lines = append(l.Lines, randomLine(rnd, b.Entries[rnd.Intn(len(b.Entries))]))
	}
	l.Money = span(rnd.Intn(40), 40+rnd.Intn(120))
	return l
}

// randomLine is some line in which an entry can be read, if not its colour or no size differs.
func randomLine(rnd *rand.Rand, e api.BookEntry) api.LetterLine {
	dice := sample.Dice(rnd.Intn)
	ln := api.LetterLine{Colours: 1<<rnd.Intn(4) | 1<<rnd.Intn(4), Many: span(1, 1)}
	ln.Many.Low += rnd.Intn(13)
	ln.Many.High = ln.Many.Low + rnd.Intn(2)
	for _, digit := range strconv.Itoa(e.Number) {
		ln.Digits = append(ln.Digits, 1<<(digit-'0')|1<<rnd.Intn(10))
	}
	if len(ln.Digits) == 1 {
		ln.Digits[0] |= 1<<rnd.Intn(10) | 1<<rnd.Intn(10)
	}
	if rnd.Intn(2) == 0 {
		ln.Foot = dice.Span(1, sample.LastFoot)
		return ln
	}
	ln.Sizes = dice.Order(sample.LastSize + 1)[:1+rnd.Intn(3)]
	for i := range ln.Sizes {
		ln.Sizes[i]++
	}
	slices.Sort(ln.Sizes)
	return ln
}

// eachLetter does something with the examples, and with many random letters, always the same ones.
func eachLetter(t *testing.T, many int, do func(rnd *rand.Rand, l api.LetterLetter)) {
	t.Helper()
	rnd := rand.New(rand.NewSource(2))
	for range many {
		l := randomLetter(rnd)
		if e := letter.Check(l); e != api.OK {
			t.Fatalf("Check of the valid letter %v: %d", l, e)
		}
		do(rnd, l)
	}
	do(rnd, example())
	do(rnd, two())
}
