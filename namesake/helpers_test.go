package namesake_test

import (
	"math"
	"math/rand"
	"slices"
	"testing"

	"wishbook/api"
	"wishbook/namesake"
	"wishbook/sample"
)

// The least numbers, and the greatest ones, and what lies around zero.
var extremes = []int{math.MinInt, math.MinInt + 1, -1, 0, 1, math.MaxInt - 1, math.MaxInt}

func list(numbers ...int) []int { return numbers }

func lists(lists ...[]int) [][]int { return lists }

func pairs(pairs ...[2]int) [][2]int { return pairs }

func letter(day, place, low, high int) api.NamesakeLetter {
	return api.NamesakeLetter{Day: day, Place: place, Born: sample.Span(low, high)}
}

// named is a letter that names an account.
func named(l api.NamesakeLetter, account int) api.NamesakeLetter {
	l.Account = account
	return l
}

// dead is a letter that tells of a death.
func dead(l api.NamesakeLetter) api.NamesakeLetter {
	l.Dead = true
	return l
}

// example is the book of the chapter.
func example() api.NamesakeBook {
	return api.NamesakeBook{
		Letters: []api.NamesakeLetter{
			named(letter(10, 0, 50, 60), 7), letter(12, 1, 40, 55), letter(20, 0, 56, 70), named(letter(30, 1, 50, 58), 7), dead(letter(40, 0, 30, 45)),
		},
		Far:  [][]int{{0, 5}, {5, 0}},
		Most: 3,
	}
}

// free is so many letters that nothing keeps apart but pairs.
func free(letters, most int, apart ...[2]int) api.NamesakeBook {
	return api.NamesakeBook{Letters: slices.Repeat([]api.NamesakeLetter{letter(0, 0, 0, 9)}, letters), Far: lists(list(0)), Apart: apart, Most: most}
}

// from is letters that come from places, one after the other, a day each.
func from(most int, far [][]int, places ...int) api.NamesakeBook {
	b := api.NamesakeBook{Far: far, Most: most}
	for day, place := range places {
		b.Letters = append(b.Letters, letter(day, place, 0, 9))
	}
	return b
}

// born is letters of whose writers the years are known.
func born(most int, years ...api.Span) api.NamesakeBook {
	b := free(len(years), most)
	for i, s := range years {
		b.Letters[i].Born = s
	}
	return b
}

// accounts is letters that name accounts.
func accounts(most int, numbers ...int) api.NamesakeBook {
	b := free(len(numbers), most)
	for i, account := range numbers {
		b.Letters[i].Account = account
	}
	return b
}

// deaths is so many letters, some of which tell of a death.
func deaths(letters, most int, which ...int) api.NamesakeBook {
	b := free(letters, most)
	for _, i := range which {
		b.Letters[i].Dead = true
	}
	return b
}

// largest is a valid book with as many things as there can be, and the greatest numbers.
func largest() api.NamesakeBook {
	b := api.NamesakeBook{Most: 8}
	for i := range api.NamesakeLetters {
		l := named(letter(api.MaxDay, i%api.NamesakePlaces, api.NamesakeBorn, api.NamesakeBorn), 1000)
		l.Dead = i%2 == 1
		b.Letters = append(b.Letters, l)
		b.Apart = append(b.Apart, [2]int{i / 2, 7 - i%2})
	}
	b.Apart[6], b.Apart[7] = [2]int{0, 1}, [2]int{1, 2}
	for place := range api.NamesakePlaces {
		b.Far = append(b.Far, slices.Repeat(list(api.NamesakeFar), api.NamesakePlaces))
		b.Far[place][place] = 0
	}
	return b
}

// clone copies a book wholly, and leaves free room behind each list, with what no valid book has.
func clone(b api.NamesakeBook) api.NamesakeBook {
	b.Letters = sample.Roomy(b.Letters, letter(-1, -1, -1, -2))
	b.Far = sample.Roomy(b.Far, nil)
	b.Apart = sample.Roomy(b.Apart, [2]int{-1, -1})
	for place := range b.Far {
		b.Far[place] = sample.Roomy(b.Far[place], -1)
	}
	return b
}

// someLetter returns some letter that can come behind others.
func someLetter(d sample.Dice, b api.NamesakeBook) api.NamesakeLetter {
	day := 0
	if n := len(b.Letters); n > 0 {
		day = b.Letters[n-1].Day
	}
	l := letter(day+d(4), d(len(b.Far)), 0, 0)
	l.Born = sample.Span(d(6), 3+d(8))
	l.Born.High = max(l.Born.Low, l.Born.High)
	l.Dead = d(6) == 0
	if d(2) == 0 {
		l.Account = d(4)
	}
	return l
}

// someBook returns some valid book of at most so many letters, with small numbers, so that often something keeps letters apart.
func someBook(d sample.Dice, letters int) api.NamesakeBook {
	b := api.NamesakeBook{Far: make([][]int, 1+d(3)), Most: 1 + min(d(5), d(8))}
	for place := range b.Far {
		for other := range b.Far {
			b.Far[place] = append(b.Far[place], min(d(6), d(6)))
			if place == other {
				b.Far[place][other] = 0
			}
		}
	}
	for range 1 + d(letters) {
		b.Letters = append(b.Letters, someLetter(d, b))
	}
	for range d(4) {
		p := [2]int{d(len(b.Letters)), d(len(b.Letters))}
		if p[0] < p[1] && !slices.Contains(b.Apart, p) {
			b.Apart = append(b.Apart, p)
		}
	}
	return b
}

// eachBook does something with the example, and with many random books, always the same ones.
func eachBook(t *testing.T, many, letters int, do func(d sample.Dice, b api.NamesakeBook)) {
	t.Helper()
	rnd := rand.New(rand.NewSource(8))
	do(rnd.Intn, example())
	for range many {
		b := someBook(rnd.Intn, letters)
		if e := namesake.Check(b); e != api.OK {
			t.Fatalf("Check of the valid book %v: %d", b, e)
		}
		do(rnd.Intn, b)
	}
}

// members is the numbers of a set.
func members(set int) []int {
	var list []int
	for n := range api.NamesakeLetters {
		if set>>n%2 == 1 {
			list = append(list, n)
		}
	}
	return list
}

// plainIsOne is what the definition says of letters, word by word.
func plainIsOne(b api.NamesakeBook, letters []int) bool {
	isYear := func(year int) bool {
		return !slices.ContainsFunc(letters, func(i int) bool { return year < b.Letters[i].Born.Low || year > b.Letters[i].Born.High })
	}
	year := 0
	for year <= api.NamesakeBorn && !isYear(year) {
		year++
	}
	if year > api.NamesakeBorn {
		return false
	}
	for k, second := range letters {
		for _, first := range letters[:k] {
			one, other := b.Letters[first], b.Letters[second]
			isNext := first == letters[k-1]
			if isNext && other.Day < one.Day+b.Far[one.Place][other.Place] || one.Dead || slices.Contains(b.Apart, [2]int{first, second}) {
				return false
			}
		}
	}
	return true
}

// wroteAll is which letters a person wrote.
func wroteAll(people []int, person int) []int {
	var letters []int
	for i, writer := range people {
		if writer == person {
			letters = append(letters, i)
		}
	}
	return letters
}

// plainIsTruth is what the definition says of people, word by word.
func plainIsTruth(b api.NamesakeBook, people []int) bool {
	if len(people) != len(b.Letters) {
		return false
	}
	next := 0
	for _, person := range people {
		if person < 0 || person > next {
			return false
		}
		if person == next {
			next++
		}
	}
	for person := range next {
		if !plainIsOne(b, wroteAll(people, person)) {
			return false
		}
	}
	for i, one := range b.Letters {
		for k, other := range b.Letters {
			if one.Account != 0 && one.Account == other.Account && people[i] != people[k] {
				return false
			}
		}
	}
	return next <= b.Most
}

// eachList does something with all lists of so many numbers from 0 to less than another one, the first ones first.
func eachList(many, below int, do func([]int)) {
	var add func(l []int)
	add = func(l []int) {
		if len(l) == many {
			do(slices.Clone(l))
			return
		}
		for n := range below {
			add(append(l, n))
		}
	}
	add(nil)
}

// plainTruths is all truths of a book, of all lists of numbers in which people are numbered in the order of their first letters.
func plainTruths(b api.NamesakeBook) [][]int {
	var truths [][]int
	var add func(people []int, next int)
	add = func(people []int, next int) {
		if len(people) == len(b.Letters) {
			if plainIsTruth(b, people) {
				truths = append(truths, people)
			}
			return
		}
		for person := range next + 1 {
			add(append(slices.Clone(people), person), max(next, person+1))
		}
	}
	add(nil, 0)
	return truths
}

func peopleOf(truth []int) int { return slices.Max(truth) + 1 }

// together counts the truths in which two letters are of one person.
func together(truths [][]int, one, other int) int {
	many := 0
	for _, people := range truths {
		if people[one] == people[other] {
			many++
		}
	}
	return many
}

// atWorst is how many truths are left by the answer about two letters that leaves the most.
func atWorst(truths [][]int, one, other int) int {
	yes := together(truths, one, other)
	return max(yes, len(truths)-yes)
}

// gone is the book without some letters, which are taken away one by one, the last one first.
func gone(b api.NamesakeBook, letters []int) api.NamesakeBook {
	b = clone(b)
	for _, i := range slices.Backward(letters) {
		b.Letters = slices.Delete(b.Letters, i, i+1)
		b.Apart = slices.DeleteFunc(b.Apart, func(p [2]int) bool { return p[0] == i || p[1] == i })
		for k, p := range b.Apart {
			for side, n := range p {
				if n > i {
					b.Apart[k][side]--
				}
			}
		}
	}
	return b
}
