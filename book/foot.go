package book

import (
	"wishbook/api"
	"wishbook/spans"
)

// search is a traced foot, and which sizes are looked for: those that can fit, or those that surely do.
type search struct {
	foot     api.Span
	isWanted func(size, foot api.Span) bool
}

func (s search) sizes(fits []api.BookFit) []int {
	var list []int
	for _, f := range fits {
		if s.isWanted(f.Foot, s.foot) {
			list = append(list, f.Size)
		}
	}
	return list[:len(list):len(list)]
}

// look returns the sizes of a number that are looked for, or the errors that Fits and Sure share.
func look(r rack, issue, number int, s search) ([]int, api.Errno) {
	if !r.isValid() {
		return nil, api.ErrBook
	}
	if !r.hasIssue(issue) || !spans.Has(limits[ofNumbers], number) || !spans.IsWithin(limits[ofFeet], s.foot) {
		return nil, api.ErrBookAsk
	}
	e, ok := catalogue{r.Issues[issue]}.entryOfNumber(number)
	if !ok {
		return nil, api.ErrNone
	}
	return s.sizes(e.Sizes), api.OK
}
