package book_test

import (
	"slices"
	"testing"

	"wishbook/api"
	"wishbook/book"
)

// change makes another rack of the example.
type change struct {
	name string
	do   func(r *api.BookRack)
}

func wrongRacks() []change {
	first := func(r *api.BookRack) *api.BookIssue { return &r.Issues[0] }
	second := func(r *api.BookRack) *api.BookEntry { return &r.Issues[1].Entries[1] }
	last := func(r *api.BookRack) *api.BookFit { return &r.Issues[1].Entries[0].Sizes[1] }
	return []change{
		{"no goods", func(r *api.BookRack) { r.Goods = 0 }},
		{"no goods, and no entries", func(r *api.BookRack) { *r = api.BookRack{Issues: []api.BookIssue{{}}} }},
		{"goods below 0", func(r *api.BookRack) { r.Goods = -1 }},
		{"25 goods", func(r *api.BookRack) { r.Goods = 25 }},
		{"no books", func(r *api.BookRack) { r.Issues = nil }},
		{"an empty list of books", func(r *api.BookRack) { r.Issues = []api.BookIssue{} }},
		{"5 books", func(r *api.BookRack) { r.Issues = append(r.Issues, r.Issues[0], r.Issues[0], r.Issues[0]) }},
		{"a first day below 0", func(r *api.BookRack) { first(r).Days.Low = -1 }},
		{"a last day above 20000", func(r *api.BookRack) { first(r).Days = span(100, 20001) }},
		{"no days", func(r *api.BookRack) { first(r).Days = span(281, 280) }},
		{"prices held before the first day", func(r *api.BookRack) { first(r).Held = 99 }},
		{"prices held behind the day 20000", func(r *api.BookRack) { first(r).Held = 20001 }},
		{"the second book", func(r *api.BookRack) { r.Issues[1].Held = 259 }},
		{"25 entries", func(r *api.BookRack) {
			r.Goods = 24
			for k := range 23 {
				first(r).Entries = append(first(r).Entries, entry(100+k, min(k+2, 23), 1, fit(1, 1, 1, 1)))
			}
		}},
		{"the number of another entry", func(r *api.BookRack) { second(r).Number = 12 }},
		{"the number 0", func(r *api.BookRack) { second(r).Number = 0 }},
		{"the number 10000", func(r *api.BookRack) { second(r).Number = 10000 }},
		{"the good of another entry", func(r *api.BookRack) { second(r).Good = 0 }},
		{"the good -1", func(r *api.BookRack) { second(r).Good = -1 }},
		{"a good too many", func(r *api.BookRack) { second(r).Good = 3 }},
		{"no colours", func(r *api.BookRack) { second(r).Colours = 0 }},
		{"a fifth colour", func(r *api.BookRack) { second(r).Colours = 16 }},
		{"a fifth colour beside another", func(r *api.BookRack) { second(r).Colours = 17 }},
		{"colours below 0", func(r *api.BookRack) { second(r).Colours = -1 }},
		{"no sizes", func(r *api.BookRack) { second(r).Sizes = nil }},
		{"9 sizes", func(r *api.BookRack) {
			for size := 2; size <= 9; size++ {
				second(r).Sizes = append(second(r).Sizes, fit(size, 1, 1, 1))
			}
		}},
		{"the size 0", func(r *api.BookRack) { second(r).Sizes[0].Size = 0 }},
		{"the size 100", func(r *api.BookRack) { last(r).Size = 100 }},
		{"equal sizes", func(r *api.BookRack) { last(r).Size = 40 }},
		{"a lesser size behind", func(r *api.BookRack) { last(r).Size = 39 }},
		{"the foot 0", func(r *api.BookRack) { last(r).Foot.Low = 0 }},
		{"the foot 401", func(r *api.BookRack) { last(r).Foot.High = 401 }},
		{"no foot", func(r *api.BookRack) { last(r).Foot = span(271, 270) }},
		{"the price 0", func(r *api.BookRack) { last(r).Price = 0 }},
		{"the price 100001", func(r *api.BookRack) { last(r).Price = 100001 }},
	}
}

func rightRacks() []change {
	first := func(r *api.BookRack) *api.BookIssue { return &r.Issues[0] }
	second := func(r *api.BookRack) *api.BookEntry { return &r.Issues[1].Entries[1] }
	return []change{
		{"the example", func(r *api.BookRack) {}},
		{"the largest", func(r *api.BookRack) { *r = largest() }},
		{"the smallest", func(r *api.BookRack) { *r = smallest() }},
		{"books without entries", func(r *api.BookRack) { first(r).Entries, r.Issues[1].Entries = nil, []api.BookEntry{} }},
		{"one day", func(r *api.BookRack) { first(r).Days, first(r).Held = span(20000, 20000), 20000 }},
		{"prices of one day", func(r *api.BookRack) { first(r).Held = 100 }},
		{"4 equal books", func(r *api.BookRack) { r.Issues = append(r.Issues, r.Issues...) }},
		{"the numbers 1 and 9999", func(r *api.BookRack) { r.Issues[1].Entries[0].Number, second(r).Number = 1, 9999 }},
		{"one colour, and all", func(r *api.BookRack) { r.Issues[1].Entries[0].Colours, second(r).Colours = 8, 15 }},
		{"a foot of one millimetre", func(r *api.BookRack) { second(r).Sizes[0].Foot = span(400, 400) }},
		{"the prices 1 and 100000", func(r *api.BookRack) { second(r).Sizes = []api.BookFit{fit(1, 1, 1, 1), fit(99, 1, 1, 100000)} }},
		{"entries in another order", func(r *api.BookRack) { slices.Reverse(first(r).Entries) }},
	}
}

// errorsOf returns the errors of all functions but Check, asked something that is wrong, too.
func errorsOf(t *testing.T, r api.BookRack) map[string]api.Errno {
	t.Helper()
	none, wrong := span(1, 0), item(-1, 0, 4)
	many := make([]api.BookLine, 21)
	meant, e1 := book.Means(r, none, 0)
	number, e2 := book.Number(r, -1, 0, 9)
	twins, e3 := book.Twins(r, -1)
	price, e4 := book.Price(r, -1, wrong)
	prices, e5 := book.Prices(r, none, wrong)
	last, e6 := book.Last(r, wrong)
	sum, e7 := book.Sum(r, -1, many)
	day, least, e8 := book.Cheapest(r, none, many)
	fits, e9 := book.Fits(r, -1, 0, none)
	sure, e10 := book.Sure(r, -1, 0, none)
	if len(meant)+len(twins)+len(prices)+len(fits) > 0 || number != 0 || price != 0 || last != 0 || sum != 0 || day != 0 || least != 0 || sure != 0 {
		t.Errorf("with an error a result is not zero: %v %v %v %v %d %d %d %d %d %d %d", meant, twins, prices, fits, number, price, last, sum, day, least, sure)
	}
	return map[string]api.Errno{"Means": e1, "Number": e2, "Twins": e3, "Price": e4, "Prices": e5, "Last": e6, "Sum": e7, "Cheapest": e8, "Fits": e9, "Sure": e10}
}

// P1.1: which racks are valid, and that this error is the first one.
func TestP1_1Check(t *testing.T) {
	for _, c := range wrongRacks() {
		r := example()
		c.do(&r)
		if e := book.Check(r); e != api.ErrBook {
			t.Errorf("%s: Check: %d", c.name, e)
		}
		for name, e := range errorsOf(t, r) {
			if e != api.ErrBook {
				t.Errorf("%s: %s: %d", c.name, name, e)
			}
		}
	}
	for _, c := range rightRacks() {
		r := example()
		c.do(&r)
		if e := book.Check(r); e != api.OK {
			t.Errorf("%s: Check: %d", c.name, e)
		}
		for name, e := range errorsOf(t, r) {
			if e != api.ErrBookAsk {
				t.Errorf("%s: %s of what is wrong: %d", c.name, name, e)
			}
		}
	}
}

// P1.1: what a number means.
func TestP1_1Means(t *testing.T) {
	lamp, boot, nail := api.BookMeant{Issue: 0, Good: 1}, api.BookMeant{Issue: 1, Good: 0}, api.BookMeant{Issue: 1, Good: 2}
	for _, x := range []struct {
		days   api.Span
		number int
		want   []api.BookMeant
		e      api.Errno
	}{
		{span(200, 250), 12, []api.BookMeant{lamp}, api.OK},
		{span(270, 270), 12, []api.BookMeant{lamp, boot}, api.OK},
		{span(290, 300), 12, []api.BookMeant{boot}, api.OK},
		{span(0, 99), 12, nil, api.OK},
		{span(0, 100), 12, []api.BookMeant{lamp}, api.OK},
		{span(280, 280), 12, []api.BookMeant{lamp, boot}, api.OK},
		{span(281, 281), 12, []api.BookMeant{boot}, api.OK},
		{span(259, 259), 12, []api.BookMeant{lamp}, api.OK},
		{span(450, 20000), 12, []api.BookMeant{boot}, api.OK},
		{span(451, 20000), 12, nil, api.OK},
		{span(0, 20000), 12, []api.BookMeant{lamp, boot}, api.OK},
		{span(0, 20000), 13, []api.BookMeant{nail}, api.OK},
		{span(0, 20000), 1, nil, api.OK},
		{span(0, 20000), 9999, nil, api.OK},
		{span(-1, 300), 12, nil, api.ErrBookAsk},
		{span(0, 20001), 12, nil, api.ErrBookAsk},
		{span(271, 270), 12, nil, api.ErrBookAsk},
		{span(270, 270), 0, nil, api.ErrBookAsk},
		{span(270, 270), 10000, nil, api.ErrBookAsk},
	} {
		got, e := book.Means(example(), x.days, x.number)
		if !slices.Equal(got, x.want) || e != x.e {
			t.Errorf("Means %v %d: %v, %d", x.days, x.number, got, e)
		}
	}
	// A book that only holds its prices still is not in use any more.
	r := example()
	r.Issues[1].Held = 20000
	if got, e := book.Means(r, span(451, 460), 12); len(got) != 0 || e != api.OK {
		t.Errorf("Means behind the last day: %v, %d", got, e)
	}
	// A book is in use behind the day to which its prices are held.
	r.Issues[0].Held = 150
	if got, e := book.Means(r, span(200, 200), 11); !slices.Equal(got, []api.BookMeant{{}}) || e != api.OK {
		t.Errorf("Means behind the held prices: %v, %d", got, e)
	}
}

// P1.2: the numbers of a good.
func TestP1_2Number(t *testing.T) {
	for _, x := range []struct {
		issue, number, other, want int
		e                          api.Errno
	}{
		{0, 11, 1, 12, api.OK},
		{1, 12, 0, 11, api.OK},
		{0, 12, 1, 0, api.ErrNone},
		{1, 13, 0, 0, api.ErrNone},
		{0, 11, 0, 11, api.OK},
		{1, 13, 1, 13, api.OK},
		{0, 13, 1, 0, api.ErrNone},
		{0, 13, 0, 0, api.ErrNone},
		{0, 1, 1, 0, api.ErrNone},
		{0, 9999, 1, 0, api.ErrNone},
		{2, 11, 0, 0, api.ErrBookAsk},
		{-1, 11, 0, 0, api.ErrBookAsk},
		{0, 11, 2, 0, api.ErrBookAsk},
		{0, 11, -1, 0, api.ErrBookAsk},
		{0, 0, 1, 0, api.ErrBookAsk},
		{0, 10000, 1, 0, api.ErrBookAsk},
		{0, 13, 2, 0, api.ErrBookAsk},
	} {
		if got, e := book.Number(example(), x.issue, x.number, x.other); got != x.want || e != x.e {
			t.Errorf("Number %d %d %d: %d, %d", x.issue, x.number, x.other, got, e)
		}
	}
}

// P1.2: the numbers that mean several goods.
func TestP1_2Twins(t *testing.T) {
	size := fit(1, 1, 1, 1)
	more := example()
	more.Issues = append(more.Issues,
		api.BookIssue{Days: span(270, 290), Held: 400, Entries: []api.BookEntry{entry(13, 2, 1, size), entry(12, 2, 1, size), entry(11, 1, 1, size)}[1:]},
		api.BookIssue{Days: span(275, 290), Held: 290, Entries: []api.BookEntry{entry(13, 0, 1, size), entry(5, 1, 1, size), entry(11, 2, 1, size)}})
	for _, x := range []struct {
		r    api.BookRack
		day  int
		want []int
		e    api.Errno
	}{
		{example(), 270, []int{12}, api.OK},
		{example(), 200, nil, api.OK},
		{example(), 259, nil, api.OK},
		{example(), 260, []int{12}, api.OK},
		{example(), 280, []int{12}, api.OK},
		{example(), 281, nil, api.OK},
		{example(), 0, nil, api.OK},
		{example(), 20000, nil, api.OK},
		{more, 269, []int{12}, api.OK},
		{more, 270, []int{11, 12}, api.OK},
		{more, 280, []int{11, 12, 13}, api.OK},
		{more, 285, []int{11, 12, 13}, api.OK},
		{more, 291, nil, api.OK},
		{largest(), 7, twinsOfLargest(), api.OK},
		{example(), -1, nil, api.ErrBookAsk},
		{example(), 20001, nil, api.ErrBookAsk},
	} {
		if got, e := book.Twins(x.r, x.day); !slices.Equal(got, x.want) || e != x.e {
			t.Errorf("Twins %d: %v, %d", x.day, got, e)
		}
	}
	same := example()
	same.Issues[1] = same.Issues[0]
	if got, e := book.Twins(same, 270); len(got) != 0 || e != api.OK {
		t.Errorf("Twins of equal books: %v, %d", got, e)
	}
}

// twinsOfLargest: each number but the first one and the last one of all books is in two of them at least, for different goods.
func twinsOfLargest() []int {
	var list []int
	for n := api.BookNumber - 25; n <= api.BookNumber-1; n++ {
		list = append(list, n)
	}
	return list
}

// P1.3: the price of an item on a day.
func TestP1_3Price(t *testing.T) {
	short := example()
	short.Issues[0].Held = 150
	for _, x := range []struct {
		r    api.BookRack
		day  int
		item api.BookItem
		want int
		e    api.Errno
	}{
		{example(), 290, item(0, 40, 0), 900, api.OK},
		{example(), 301, item(0, 40, 0), 980, api.OK},
		{example(), 99, item(0, 40, 0), 0, api.ErrNone},
		{example(), 301, item(0, 40, 1), 0, api.ErrNone},
		{example(), 100, item(0, 40, 0), 900, api.OK},
		{example(), 300, item(0, 40, 0), 900, api.OK},
		{example(), 450, item(0, 40, 0), 980, api.OK},
		{example(), 451, item(0, 40, 0), 0, api.ErrNone},
		{example(), 300, item(0, 40, 1), 900, api.OK},
		{example(), 280, item(0, 41, 0), 950, api.OK},
		{example(), 280, item(0, 42, 0), 990, api.OK},
		{example(), 280, item(0, 43, 0), 0, api.ErrNone},
		{example(), 280, item(0, 42, 1), 0, api.ErrNone},
		{example(), 280, item(2, 1, 2), 50, api.OK},
		{example(), 280, item(2, 1, 3), 0, api.ErrNone},
		{example(), 280, item(0, 1, 0), 0, api.ErrNone},
		{example(), 280, item(0, 99, 3), 0, api.ErrNone},
		{example(), 0, item(0, 40, 0), 0, api.ErrNone},
		{example(), 20000, item(0, 40, 0), 0, api.ErrNone},
		{short, 150, item(1, 7, 0), 300, api.OK},
		{short, 151, item(1, 7, 0), 0, api.ErrNone},
		{largest(), 20000, item(23, 99, 3), 99997, api.OK},
		{example(), -1, item(0, 40, 0), 0, api.ErrBookAsk},
		{example(), 20001, item(0, 40, 0), 0, api.ErrBookAsk},
		{example(), 290, item(-1, 40, 0), 0, api.ErrBookAsk},
		{example(), 290, item(3, 40, 0), 0, api.ErrBookAsk},
		{example(), 290, item(0, 0, 0), 0, api.ErrBookAsk},
		{example(), 290, item(0, 100, 0), 0, api.ErrBookAsk},
		{example(), 290, item(0, 40, -1), 0, api.ErrBookAsk},
		{example(), 290, item(0, 40, 4), 0, api.ErrBookAsk},
	} {
		if got, e := book.Price(x.r, x.day, x.item); got != x.want || e != x.e {
			t.Errorf("Price %d %v: %d, %d", x.day, x.item, got, e)
		}
	}
}

// P1.3: the prices of an item on some days.
func TestP1_3Prices(t *testing.T) {
	gap := example()
	gap.Issues[0].Held = 150
	cheaper := example()
	cheaper.Issues[1].Entries[0].Sizes[0].Price = 800
	equal := example()
	equal.Issues[1].Entries[0].Sizes[0].Price = 900
	for _, x := range []struct {
		r    api.BookRack
		days api.Span
		item api.BookItem
		want []int
		e    api.Errno
	}{
		{example(), span(250, 350), item(0, 40, 0), []int{900, 980}, api.OK},
		{example(), span(300, 301), item(0, 40, 0), []int{900, 980}, api.OK},
		{example(), span(250, 300), item(0, 40, 0), []int{900}, api.OK},
		{example(), span(301, 301), item(0, 40, 0), []int{980}, api.OK},
		{example(), span(0, 99), item(0, 40, 0), nil, api.OK},
		{example(), span(0, 20000), item(0, 40, 0), []int{900, 980}, api.OK},
		{example(), span(0, 20000), item(2, 1, 0), nil, api.OK},
		{cheaper, span(0, 20000), item(0, 40, 0), []int{800, 900}, api.OK},
		{cheaper, span(260, 20000), item(0, 40, 0), []int{800}, api.OK},
		{equal, span(0, 20000), item(0, 40, 0), []int{900}, api.OK},
		{gap, span(0, 20000), item(0, 40, 0), []int{900, 980}, api.OK},
		{gap, span(151, 259), item(0, 40, 0), nil, api.OK},
		{example(), span(-1, 350), item(0, 40, 0), nil, api.ErrBookAsk},
		{example(), span(0, 20001), item(0, 40, 0), nil, api.ErrBookAsk},
		{example(), span(251, 250), item(0, 40, 0), nil, api.ErrBookAsk},
		{example(), span(0, 20000), item(3, 40, 0), nil, api.ErrBookAsk},
		{example(), span(0, 20000), item(0, 100, 0), nil, api.ErrBookAsk},
		{example(), span(0, 20000), item(0, 40, 4), nil, api.ErrBookAsk},
	} {
		if got, e := book.Prices(x.r, x.days, x.item); !slices.Equal(got, x.want) || e != x.e {
			t.Errorf("Prices %v %v: %v, %d", x.days, x.item, got, e)
		}
	}
}

// P1.3: the last day on which an item has a price.
func TestP1_3Last(t *testing.T) {
	long, first := example(), example()
	long.Issues[0].Held = 500
	first.Issues = []api.BookIssue{{Entries: example().Issues[0].Entries}}
	for _, x := range []struct {
		r    api.BookRack
		item api.BookItem
		want int
		e    api.Errno
	}{
		{example(), item(0, 40, 0), 450, api.OK},
		{example(), item(1, 7, 0), 300, api.OK},
		{example(), item(2, 1, 0), 0, api.ErrNone},
		{example(), item(0, 40, 1), 300, api.OK},
		{example(), item(0, 41, 0), 300, api.OK},
		{example(), item(0, 42, 0), 450, api.OK},
		{example(), item(0, 43, 0), 0, api.ErrNone},
		{example(), item(0, 1, 3), 0, api.ErrNone},
		{long, item(0, 40, 0), 500, api.OK},
		{first, item(0, 40, 0), 0, api.OK},
		{largest(), item(23, 92, 3), 20000, api.OK},
		{example(), item(-1, 40, 0), 0, api.ErrBookAsk},
		{example(), item(3, 40, 0), 0, api.ErrBookAsk},
		{example(), item(0, 0, 0), 0, api.ErrBookAsk},
		{example(), item(0, 100, 0), 0, api.ErrBookAsk},
		{example(), item(0, 40, -1), 0, api.ErrBookAsk},
		{example(), item(0, 40, 4), 0, api.ErrBookAsk},
	} {
		if got, e := book.Last(x.r, x.item); got != x.want || e != x.e {
			t.Errorf("Last %v: %d, %d", x.item, got, e)
		}
	}
}

// repeat returns a line several times.
func repeat(many int, l api.BookLine) []api.BookLine {
	return slices.Repeat([]api.BookLine{l}, many)
}

// wrongLines are lines that the example does not allow; the last ones are wrong behind ones that have no price.
func wrongLines() [][]api.BookLine {
	return [][]api.BookLine{
		repeat(21, line(1, 1, 7, 0)),
		{line(0, 1, 7, 0)},
		{line(-1, 1, 7, 0)},
		{line(1001, 1, 7, 0)},
		{line(1, -1, 7, 0)},
		{line(1, 3, 7, 0)},
		{line(1, 1, 0, 0)},
		{line(1, 1, 100, 0)},
		{line(1, 1, 7, -1)},
		{line(1, 1, 7, 4)},
		{line(1, 1, 8, 0), line(1001, 1, 7, 0)},
		{line(1, 1, 8, 0), line(1, 3, 7, 0)},
	}
}

// P1.4: what lines cost on a day.
func TestP1_4Sum(t *testing.T) {
	order := []api.BookLine{line(13, 0, 40, 0), line(2, 2, 1, 2)}
	for _, x := range []struct {
		r     api.BookRack
		day   int
		lines []api.BookLine
		want  int
		e     api.Errno
	}{
		{example(), 270, order, 10900, api.OK},
		{example(), 301, order, 11860, api.OK},
		{example(), 259, order, 0, api.ErrNone},
		{example(), 451, order, 0, api.ErrNone},
		{example(), 270, nil, 0, api.OK},
		{example(), 0, []api.BookLine{}, 0, api.OK},
		{example(), 20000, nil, 0, api.OK},
		{example(), 270, []api.BookLine{line(1, 1, 7, 0)}, 300, api.OK},
		{example(), 270, []api.BookLine{line(11, 1, 7, 0)}, 3300, api.OK},
		{example(), 270, []api.BookLine{line(12, 1, 7, 0)}, 3300, api.OK},
		{example(), 270, []api.BookLine{line(13, 1, 7, 0)}, 3600, api.OK},
		{example(), 270, []api.BookLine{line(23, 1, 7, 0)}, 6600, api.OK},
		{example(), 270, []api.BookLine{line(24, 1, 7, 0)}, 6600, api.OK},
		{example(), 270, []api.BookLine{line(1000, 1, 7, 0)}, 275100, api.OK},
		// A dozen is one of a line, not one of several.
		{example(), 270, []api.BookLine{line(6, 1, 7, 0), line(6, 1, 7, 0)}, 3600, api.OK},
		{example(), 270, repeat(20, line(1, 1, 7, 0)), 6000, api.OK},
		{largest(), 0, repeat(20, line(1000, 0, 99, 0)), 20 * 917 * 99997, api.OK},
		{example(), 270, []api.BookLine{line(1, 1, 7, 0), line(1, 1, 8, 0)}, 0, api.ErrNone},
		{example(), -1, order, 0, api.ErrBookAsk},
		{example(), 20001, order, 0, api.ErrBookAsk},
		{example(), 20001, nil, 0, api.ErrBookAsk},
	} {
		if got, e := book.Sum(x.r, x.day, x.lines); got != x.want || e != x.e {
			t.Errorf("Sum %d %v: %d, %d", x.day, x.lines, got, e)
		}
	}
	for _, lines := range wrongLines() {
		if got, e := book.Sum(example(), 270, lines); got != 0 || e != api.ErrBookAsk {
			t.Errorf("Sum of the wrong lines %v: %d, %d", lines, got, e)
		}
	}
}

// P1.4: the day of the least sum.
func TestP1_4Cheapest(t *testing.T) {
	order := []api.BookLine{line(13, 0, 40, 0), line(2, 2, 1, 2)}
	boot := []api.BookLine{line(1, 0, 40, 0)}
	cheaper := example()
	cheaper.Issues[1].Entries[0].Sizes[0].Price = 800
	for _, x := range []struct {
		r        api.BookRack
		days     api.Span
		lines    []api.BookLine
		day, sum int
		e        api.Errno
	}{
		{example(), span(250, 350), order, 260, 10900, api.OK},
		{example(), span(270, 350), order, 270, 10900, api.OK},
		{example(), span(300, 301), order, 300, 10900, api.OK},
		{example(), span(301, 350), order, 301, 11860, api.OK},
		{example(), span(450, 20000), order, 450, 11860, api.OK},
		{example(), span(0, 259), order, 0, 0, api.ErrNone},
		{example(), span(451, 20000), order, 0, 0, api.ErrNone},
		{example(), span(0, 20000), []api.BookLine{line(1, 2, 1, 0)}, 0, 0, api.ErrNone},
		{example(), span(0, 20000), boot, 100, 900, api.OK},
		{cheaper, span(0, 20000), boot, 260, 800, api.OK},
		{cheaper, span(0, 259), boot, 100, 900, api.OK},
		{cheaper, span(0, 260), boot, 260, 800, api.OK},
		{example(), span(7, 9), nil, 7, 0, api.OK},
		{example(), span(20000, 20000), []api.BookLine{}, 20000, 0, api.OK},
		{example(), span(-1, 350), order, 0, 0, api.ErrBookAsk},
		{example(), span(250, 20001), order, 0, 0, api.ErrBookAsk},
		{example(), span(351, 350), order, 0, 0, api.ErrBookAsk},
		{example(), span(351, 350), nil, 0, 0, api.ErrBookAsk},
	} {
		if day, sum, e := book.Cheapest(x.r, x.days, x.lines); day != x.day || sum != x.sum || e != x.e {
			t.Errorf("Cheapest %v %v: %d, %d, %d", x.days, x.lines, day, sum, e)
		}
	}
	for _, lines := range wrongLines() {
		if day, sum, e := book.Cheapest(example(), span(250, 350), lines); day != 0 || sum != 0 || e != api.ErrBookAsk {
			t.Errorf("Cheapest of the wrong lines %v: %d, %d, %d", lines, day, sum, e)
		}
	}
}

// P1.5: the sizes that can fit, and the one that surely does.
func TestP1_5FitsAndSure(t *testing.T) {
	for _, x := range []struct {
		issue, number int
		foot          api.Span
		fits          []int
		e             api.Errno
		sure          int
		sureE         api.Errno
	}{
		{0, 11, span(255, 257), []int{40, 41}, api.OK, 40, api.OK},
		{0, 11, span(259, 270), []int{41}, api.OK, 0, api.ErrNone},
		{0, 11, span(100, 200), nil, api.OK, 0, api.ErrNone},
		{0, 11, span(252, 258), []int{40, 41}, api.OK, 40, api.OK},
		{0, 11, span(257, 258), []int{40, 41}, api.OK, 40, api.OK},
		{0, 11, span(255, 260), []int{40, 41}, api.OK, 0, api.ErrNone},
		{0, 11, span(250, 255), []int{40}, api.OK, 40, api.OK},
		{0, 11, span(249, 255), []int{40}, api.OK, 0, api.ErrNone},
		{0, 11, span(256, 264), []int{40, 41}, api.OK, 41, api.OK},
		{0, 11, span(259, 264), []int{41}, api.OK, 41, api.OK},
		{0, 11, span(259, 265), []int{41}, api.OK, 0, api.ErrNone},
		{0, 11, span(264, 400), []int{41}, api.OK, 0, api.ErrNone},
		{0, 11, span(265, 400), nil, api.OK, 0, api.ErrNone},
		{0, 11, span(1, 249), nil, api.OK, 0, api.ErrNone},
		{0, 11, span(1, 250), []int{40}, api.OK, 0, api.ErrNone},
		{0, 11, span(1, 400), []int{40, 41}, api.OK, 0, api.ErrNone},
		{0, 12, span(1, 400), []int{7}, api.OK, 7, api.OK},
		{0, 12, span(400, 400), []int{7}, api.OK, 7, api.OK},
		{1, 12, span(258, 262), []int{40, 42}, api.OK, 0, api.ErrNone},
		{1, 12, span(259, 261), nil, api.OK, 0, api.ErrNone},
		{0, 13, span(255, 257), nil, api.ErrNone, 0, api.ErrNone},
		{1, 11, span(255, 257), nil, api.ErrNone, 0, api.ErrNone},
		{0, 1, span(255, 257), nil, api.ErrNone, 0, api.ErrNone},
		{0, 9999, span(255, 257), nil, api.ErrNone, 0, api.ErrNone},
		{2, 11, span(255, 257), nil, api.ErrBookAsk, 0, api.ErrBookAsk},
		{-1, 11, span(255, 257), nil, api.ErrBookAsk, 0, api.ErrBookAsk},
		{0, 0, span(255, 257), nil, api.ErrBookAsk, 0, api.ErrBookAsk},
		{0, 10000, span(255, 257), nil, api.ErrBookAsk, 0, api.ErrBookAsk},
		{0, 11, span(0, 257), nil, api.ErrBookAsk, 0, api.ErrBookAsk},
		{0, 11, span(255, 401), nil, api.ErrBookAsk, 0, api.ErrBookAsk},
		{0, 11, span(258, 257), nil, api.ErrBookAsk, 0, api.ErrBookAsk},
		{0, 13, span(0, 257), nil, api.ErrBookAsk, 0, api.ErrBookAsk},
	} {
		if got, e := book.Fits(example(), x.issue, x.number, x.foot); !slices.Equal(got, x.fits) || e != x.e {
			t.Errorf("Fits %d %d %v: %v, %d", x.issue, x.number, x.foot, got, e)
		}
		if got, e := book.Sure(example(), x.issue, x.number, x.foot); got != x.sure || e != x.sureE {
			t.Errorf("Sure %d %d %v: %d, %d", x.issue, x.number, x.foot, got, e)
		}
	}
}
