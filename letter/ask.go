package letter

import (
	"iter"

	"wishbook/api"
)

// answers is what an order says to the pairs of a question, one after the other (nothing behind them).
type answers [api.LetterLines * len(values{})]int

// shortest returns the first one of the shortest questions that leave one order.
func shortest(orders []order, lines int) []api.LetterAsk {
	pairs := pairsOf(lines)
	for many := range pairs {
		for question := range questions(pairs, many) {
			if leavesOne(orders, question) {
				return question
			}
		}
	}
	return pairs // whoever knows all fields knows the order
}

func pairsOf(lines int) []api.LetterAsk {
	var list []api.LetterAsk
	for k := range lines {
		for field := range len(values{}) {
			list = append(list, api.LetterAsk{Line: k, Field: field})
		}
	}
	return list[:len(list):len(list)]
}

// questions produces all questions of so many pairs, in their order.
func questions(pairs []api.LetterAsk, many int) iter.Seq[[]api.LetterAsk] {
	return func(yield func([]api.LetterAsk) bool) {
		var choose func(chosen, rest []api.LetterAsk) bool
		choose = func(chosen, rest []api.LetterAsk) bool {
			if len(chosen) == many {
				return yield(chosen)
			}
			for i, pair := range rest {
				// Without room behind it the list is copied, so that no other question has the same memory.
				if !choose(append(chosen[:len(chosen):len(chosen)], pair), rest[i+1:]) {
					return false
				}
			}
			return true
		}
		choose(nil, pairs)
	}
}

func leavesOne(orders []order, question []api.LetterAsk) bool {
	known := map[answers]bool{}
	for _, o := range orders {
		a := o.answers(question)
		if known[a] {
			return false
		}
		known[a] = true
	}
	return true
}

func (o order) answers(question []api.LetterAsk) answers {
	var a answers
	for i, pair := range question {
		a[i] = o[pair.Line][pair.Field]
	}
	return a
}
