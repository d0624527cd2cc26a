package letter

import (
	"wishbook/api"
	"wishbook/choices"
)

// answers is what an order says to the pairs of a question, one after the other (nothing behind them).
type answers [api.LetterLines * len(values{})]int

// shortest returns the first one of the shortest questions that leave one order.
func shortest(orders []order, lines int) []api.LetterAsk {
	pairs := pairsOf(lines)
	for many := range pairs {
		for question := range choices.Of(pairs, many) {
			if leavesOne(orders, question) {
				return question
			}
		}
	}
	return pairs // whoever knows all fields knows the order
}

func pairsOf(lines int) []api.LetterAsk {
	var list []api.LetterAsk
	for k := range lines {
		for field := range len(values{}) {
			list = append(list, api.LetterAsk{Line: k, Field: field})
		}
	}
	return list[:len(list):len(list)]
}

func leavesOne(orders []order, question []api.LetterAsk) bool {
	known := map[answers]bool{}
	for _, o := range orders {
		a := o.answers(question)
		if known[a] {
			return false
		}
		known[a] = true
	}
	return true
}

func (o order) answers(question []api.LetterAsk) answers {
	var a answers
	for i, pair := range question {
		a[i] = o[pair.Line][pair.Field]
	}
	return a
}
