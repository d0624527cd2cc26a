package namesake

import (
	"cmp"
	"iter"
	"slices"

	"wishbook/api"
	"wishbook/spans"
)

// pair is two letters.
type pair struct{ one, other int }

// survey is what is so of all truths of a book.
type survey struct {
	book
	many   int                        // how many there are
	shared map[pair]int               // in how many of them two letters are of one person
	better func(one, than []int) bool // which one of two of them is told
	best   []int                      // nothing, if there is none
}

func (b book) survey() survey {
	s := survey{book: b, shared: map[pair]int{}, better: hasFewer}
	for people := range b.truths() {
		s.add(people)
	}
	return s
}

func (s *survey) add(people []int) {
	s.many++
	for letter, person := range people {
		for other, writer := range people {
			if person == writer {
				s.shared[pair{letter, other}]++
			}
		}
	}
	if s.best == nil || s.better(people, s.best) {
		s.best = people
	}
}

// hasFewer reports whether one truth has fewer people than another one, or as many, and comes before it.
func hasFewer(one, than []int) bool {
	return cmp.Or(cmp.Compare(manyOf(one), manyOf(than)), slices.Compare(one, than)) < 0
}

// count returns how many truths there are.
func (b book) count() int { return b.survey().many }

func (s survey) fewest() int { return manyOf(s.best) }

func (s survey) first() []int { return s.best[:len(s.best):len(s.best)] }

// same returns what is known of whether two letters are of one person.
func (s survey) same(p pair) int {
	switch s.shared[p] {
	case s.many:
		return api.NamesakeYes
	case 0:
		return api.NamesakeNo
	}
	return api.NamesakeMay
}

// joined returns the letters as lists of those that surely are of one person.
func (s survey) joined() [][]int {
	var list [][]int
letters:
	for letter := range len(s.Letters) {
		for i, together := range list {
			if s.same(pair{together[0], letter}) == api.NamesakeYes {
				list[i] = append(together, letter)
				continue letters
			}
		}
		list = append(list, []int{letter})
	}
	return list[:len(list):len(list)]
}

// question returns the two letters of which the answer leaves the fewest truths at the worst: nothing, if each one can leave all of them.
func (s survey) question() pair {
	var best pair
	left := s.many
	for p := range s.pairs() {
		if worst := spans.Greatest(s.shared[p], s.many-s.shared[p]); worst < left {
			best, left = p, worst
		}
	}
	return best
}

// pairs produces all two letters, the first ones first.
func (b book) pairs() iter.Seq[pair] {
	return func(yield func(pair) bool) {
		for one := range len(b.Letters) {
			for other := one + 1; other < len(b.Letters); other++ {
				if !yield(pair{one, other}) {
					return
				}
			}
		}
	}
}

// asking is two letters that are asked about.
type asking struct {
	book
	pair
}

func (a asking) isThere() bool { return a.hasLetter(a.one) && a.hasLetter(a.other) }

func (a asking) same(s survey) int { return s.same(a.pair) }
