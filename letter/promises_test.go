package letter_test

import (
	"slices"
	"testing"

	"wishbook/api"
	"wishbook/letter"
	"wishbook/sample"
)

// change makes another letter of the example.
type change struct {
	name string
	do   func(l *api.LetterLetter)
}

func with(changes ...func(l *api.LetterLetter)) api.LetterLetter {
	l := example()
	for _, do := range changes {
		do(&l)
	}
	return l
}

func money(low, high int) func(l *api.LetterLetter) {
	return func(l *api.LetterLetter) { l.Money = span(low, high) }
}

func days(low, high int) func(l *api.LetterLetter) {
	return func(l *api.LetterLetter) { l.Days = span(low, high) }
}

func foot(low, high int) func(l *api.LetterLetter) {
	return func(l *api.LetterLetter) { l.Lines[0].Foot = span(low, high) }
}

func sizes(list ...int) func(l *api.LetterLetter) {
	return func(l *api.LetterLetter) { l.Lines[0].Sizes, l.Lines[0].Foot = list, api.Span{} }
}

func digits(sets ...int) func(l *api.LetterLetter) {
	return func(l *api.LetterLetter) { l.Lines[0].Digits = sets }
}

func colours(set int) func(l *api.LetterLetter) {
	return func(l *api.LetterLetter) { l.Lines[0].Colours = set }
}

func many(low, high int) func(l *api.LetterLetter) {
	return func(l *api.LetterLetter) { l.Lines[0].Many = span(low, high) }
}

func rack(do func(r *api.BookRack)) func(l *api.LetterLetter) {
	return func(l *api.LetterLetter) { do(&l.Rack) }
}

// second does to a second line what is done to the first one, which stays as it is.
func second(do func(l *api.LetterLetter)) func(l *api.LetterLetter) {
	return func(l *api.LetterLetter) {
		other := example()
		do(&other)
		l.Lines = append(l.Lines, other.Lines...)
	}
}

func wrongLetters() []change {
	list := []change{
		{"nothing", func(l *api.LetterLetter) { *l = api.LetterLetter{} }},
		{"no books", rack(func(r *api.BookRack) { r.Issues = nil })},
		{"no goods", rack(func(r *api.BookRack) { r.Goods = 0 })},
		{"a wrong price", rack(func(r *api.BookRack) { r.Issues[1].Entries[1].Sizes[0].Price = 0 })},
		{"a wrong day of a book", rack(func(r *api.BookRack) { r.Issues[1].Held = 259 })},
		{"a first day below 0", days(-1, 290)},
		{"a last day above 20000", days(250, 20001)},
		{"no days", days(290, 289)},
		{"money below 0", money(-1, 1000)},
		{"money above 10000000", money(300, 10000001)},
		{"no money", money(1000, 999)},
		{"no lines", func(l *api.LetterLetter) { l.Lines = nil }},
		{"an empty list of lines", func(l *api.LetterLetter) { l.Lines = []api.LetterLine{} }},
		{"3 lines", func(l *api.LetterLetter) { l.Lines = append(l.Lines, l.Lines[0], l.Lines[0]) }},
	}
	for _, c := range wrongLines() {
		list = append(list, c, change{c.name + " of the second line", second(c.do)})
	}
	return list
}

func wrongLines() []change {
	return []change{
		{"no digits", digits()},
		{"5 digits", digits(2, 2, 2, 2, 2)},
		{"a digit without a reading", digits(2, 0)},
		{"a digit above 9", digits(2, 1024)},
		{"a digit above 9 beside another", digits(2, 1026)},
		{"digits below 0", digits(2, -1)},
		{"the least digits", digits(2, -1<<63)},
		{"5 ways", digits(31)},
		{"5 ways, with 0", digits(1+4+16+64+256, 2)},
		{"6 ways", digits(3, 7)},
		{"8 ways", digits(3, 2, 6, 6)},
		{"10 ways", digits(1023)},
		{"all ways", digits(1023, 1023, 1023, 1023)},
		{"4 sizes", sizes(40, 41, 42, 43)},
		{"equal sizes", sizes(40, 40)},
		{"a lesser size behind", sizes(40, 41, 39)},
		{"the size 0", sizes(0, 40)},
		{"the size -1", sizes(-1)},
		{"the size 100", sizes(40, 100)},
		{"sizes and a foot", func(l *api.LetterLetter) { l.Lines[0].Sizes = []int{40} }},
		{"sizes and the end of a foot", func(l *api.LetterLetter) { sizes(40)(l); foot(0, 1)(l) }},
		{"sizes and the beginning of a foot", func(l *api.LetterLetter) { sizes(40)(l); foot(-1, 0)(l) }},
		{"neither sizes nor a foot", foot(0, 0)},
		{"an empty list of sizes, and no foot", sizes([]int{}...)},
		{"the foot 0", foot(0, 257)},
		{"the foot 401", foot(255, 401)},
		{"no foot", foot(257, 256)},
		{"no colours", colours(0)},
		{"a fifth colour", colours(16)},
		{"a fifth colour beside another", colours(17)},
		{"3 colours", colours(7)},
		{"4 colours", colours(15)},
		{"colours below 0", colours(-1)},
		{"no pieces", many(0, 1)},
		{"1001 pieces", many(1000, 1001)},
		{"no numbers of pieces", many(2, 1)},
		{"3 numbers of pieces", many(1, 3)},
		{"all numbers of pieces", many(1, 1000)},
	}
}

func rightLetters() []change {
	list := []change{
		{"the example", func(l *api.LetterLetter) {}},
		{"two lines", func(l *api.LetterLetter) { *l = two() }},
		{"the largest", func(l *api.LetterLetter) { *l = largest() }},
		{"the first day", days(0, 0)},
		{"the last day", days(20000, 20000)},
		{"all days", days(0, 20000)},
		{"no cents", money(0, 0)},
		{"all cents", money(0, 10000000)},
		{"the most cents", money(10000000, 10000000)},
		{"books without entries", rack(func(r *api.BookRack) { r.Issues[0].Entries, r.Issues[1].Entries = nil, nil })},
	}
	for _, c := range rightLines() {
		list = append(list, c, change{c.name + " of the second line", second(c.do)})
	}
	return list
}

func rightLines() []change {
	return []change{
		{"a digit that is 0", digits(1)},
		{"a digit that is 9", digits(512)},
		{"4 ways of a digit", digits(15)},
		{"4 ways of 4 digits", digits(6, 2, 3, 1)},
		{"3 ways", digits(2, 1+64+512)},
		{"a size", sizes(1)},
		{"3 sizes", sizes(1, 2, 99)},
		{"the whole foot", foot(1, 400)},
		{"an empty list of sizes, and a foot", func(l *api.LetterLetter) { l.Lines[0].Sizes = []int{} }},
		{"a foot of one millimetre", foot(400, 400)},
		{"one colour", colours(8)},
		{"2 colours", colours(12)},
		{"one piece", many(1, 1)},
		{"1000 pieces", many(999, 1000)},
	}
}

// errorsOf returns the errors of all functions but Check, asked something that is wrong where this can be.
func errorsOf(t *testing.T, l api.LetterLetter) map[string]api.Errno {
	t.Helper()
	is, e1 := letter.IsOrder(l, nil)
	count, e2 := letter.Many(l)
	orders, e3 := letter.Orders(l)
	can, e4 := letter.Can(l, -1)
	sure, e5 := letter.Sure(l)
	question, e6 := letter.Ask(l)
	when, e7 := letter.When(l, nil)
	cost, e8 := letter.Cost(l)
	isZero := map[string]bool{"IsOrder": !is, "Many": count == 0, "Orders": len(orders) == 0, "Can": len(can) == 0, "Sure": len(sure) == 0, "Ask": len(question) == 0, "When": when == api.Span{}, "Cost": cost == api.Span{}}
	errnos := map[string]api.Errno{"IsOrder": e1, "Many": e2, "Orders": e3, "Can": e4, "Sure": e5, "Ask": e6, "When": e7, "Cost": e8}
	for name, e := range errnos {
		if e != api.OK && !isZero[name] {
			t.Errorf("%s: with the error %d a result is not zero", name, e)
		}
	}
	return errnos
}

// P2.1: which letters are valid, and that this error is the first one.
func TestP2_1Check(t *testing.T) {
	for _, c := range wrongLetters() {
		l := with(c.do)
		if e := letter.Check(l); e != api.ErrLetter {
			t.Errorf("%s: Check: %d", c.name, e)
		}
		for name, e := range errorsOf(t, l) {
			if e != api.ErrLetter {
				t.Errorf("%s: %s: %d", c.name, name, e)
			}
		}
	}
	for _, c := range rightLetters() {
		l := with(c.do)
		if e := letter.Check(l); e != api.OK {
			t.Errorf("%s: Check: %d", c.name, e)
		}
		for name, e := range errorsOf(t, l) {
			if e == api.ErrLetter || name == "Can" && e != api.ErrLetterAsk || name == "When" && e != api.ErrNone {
				t.Errorf("%s: %s: %d", c.name, name, e)
			}
		}
	}
}

// P2.1: what is an order, and what is none.
func TestP2_1IsOrder(t *testing.T) {
	for _, x := range []struct {
		l     api.LetterLetter
		lines []api.BookLine
		want  bool
	}{
		{example(), lines(line(1, 0, 40, 1)), true},
		{example(), lines(line(2, 0, 40, 0)), false},
		{example(), lines(line(1, 0, 42, 0)), false},
		{example(), lines(line(1, 0, 41, 0)), true},
		{example(), lines(line(1, 1, 7, 0)), true},
		{example(), lines(line(2, 1, 7, 0)), true},
		{example(), lines(line(3, 1, 7, 0)), false},
		{example(), lines(line(0, 1, 7, 0)), false},
		{example(), lines(line(1, 1, 7, 1)), false},
		{example(), lines(line(1, 0, 40, 2)), false},
		{example(), lines(line(1, 2, 1, 2)), false},
		{example(), lines(line(1, -1, 40, -1)), false},
		{example(), lines(line(1, 0, 40, 64)), false},
		{example(), lines(api.BookLine{}), false},
		{example(), nil, false},
		{example(), lines(), false},
		{example(), lines(line(1, 1, 7, 0), line(1, 1, 7, 0)), false},
		{example(), lines(line(1, 1, 7, 0), line(1, 1, 7, 0), line(1, 1, 7, 0)), false},
		{two(), lines(line(1, 0, 40, 1), line(2, 1, 7, 0)), true},
		{two(), lines(line(2, 1, 7, 0), line(1, 0, 40, 1)), false},
		{two(), lines(line(1, 0, 40, 1)), false},
		{two(), nil, false},
		{two(), lines(line(1, 0, 40, 1), line(2, 1, 7, 0), line(2, 1, 7, 0)), false},
	} {
		if got, e := letter.IsOrder(x.l, x.lines); got != x.want || e != api.OK {
			t.Errorf("IsOrder of %v: %v, %d", x.lines, got, e)
		}
	}
}

// P2.1: how many orders there are, by each thing that is said of an order.
func TestP2_1Many(t *testing.T) {
	short := rack(func(r *api.BookRack) { r.Issues[0].Held = 150 })
	one := rack(func(r *api.BookRack) { r.Issues[1].Entries[1].Number = 1 })
	nail := func(l *api.LetterLetter) { digits(3, 2)(l); colours(4)(l); money(0, 50)(l); many(1, 1)(l) }
	for _, x := range []struct {
		name string
		l    api.LetterLetter
		want int
	}{
		{"the example", example(), 6},
		{"two lines", two(), 20},
		{"the largest", largest(), 65536},
		{"more money", with(money(900, 1000)), 4},
		{"the money of one", with(money(300, 300)), 1},
		{"the least money", with(money(0, 300)), 1},
		{"less money", with(money(0, 299)), 0},
		{"more than they cost", with(money(951, 1000)), 0},
		{"days before the books", with(days(0, 99)), 0},
		{"the first day of the books", with(days(0, 100)), 6},
		{"the second book", with(days(301, 310)), 1},
		{"the second book, at the held price", with(days(300, 300), money(0, 979)), 1},
		{"the second book, at its own price", with(days(301, 301), money(0, 979)), 0},
		{"a book that is not in use", with(days(281, 300)), 1},
		{"days behind the books", with(days(451, 20000)), 0},
		{"a book in use without prices", with(short, days(151, 259)), 0},
		{"the last day of prices", with(short, days(150, 259)), 6},
		{"a book in use at the prices of another", with(short, days(260, 280)), 1},
		{"another first digit", with(digits(4, 6)), 0},
		{"a digit more", with(digits(2, 6, 1)), 0},
		{"a digit less", with(digits(2)), 0},
		{"0 in front", with(digits(1, 2, 6)), 0},
		{"the number 0", with(digits(1)), 0},
		{"the number 1", with(one, nail, digits(2), foot(1, 1)), 1},
		{"the number 1 with 0 in front", with(one, nail, foot(1, 1), days(281, 290)), 0},
		{"the number 11 and not 01", with(nail, colours(3), money(0, 900)), 2},
		{"another colour", with(colours(2)), 2},
		{"a colour that none has", with(colours(8)), 0},
		{"a colour that none has beside one", with(colours(10)), 2},
		{"a size", with(sizes(41)), 2},
		{"a size that no foot would fit", with(sizes(42), days(290, 290)), 1},
		{"sizes that the entries have not", with(sizes(6, 8, 39)), 0},
		{"all sizes", with(sizes(7, 40, 41)), 6},
		{"a wide foot", with(foot(1, 400)), 7},
		{"the end of a foot", with(foot(1, 250)), 4},
		{"less than the end of a foot", with(foot(1, 249)), 2},
		{"the beginning of a foot", with(foot(264, 400)), 5},
		{"behind the feet", with(foot(265, 400), days(100, 259)), 2},
		{"two pieces", with(many(2, 2)), 1},
		{"a dozen costs as much as 11", with(many(11, 12), money(3300, 3300)), 2},
		{"13 pieces", with(many(12, 13), money(3600, 3600)), 1},
		{"books without entries", with(rack(func(r *api.BookRack) { r.Issues[0].Entries, r.Issues[1].Entries = nil, nil })), 0},
		{"lines that no book has both", with(digits(2, 2), second(func(l *api.LetterLetter) { digits(2, 8)(l); colours(4)(l) }), money(0, 10000)), 0},
		{"lines that a book has both", with(sizes(40), second(func(l *api.LetterLetter) { digits(2, 8)(l); colours(4)(l) }), money(0, 10000)), 4},
		{"lines together too dear", with(second(sizes(40)), money(0, 1199)), 0},
		{"lines together just so dear", with(second(sizes(40)), money(0, 1200)), 2},
	} {
		if got, e := letter.Many(x.l); got != x.want || e != api.OK {
			t.Errorf("%s: %d, %d, not %d", x.name, got, e, x.want)
		}
	}
}

// crowd is a letter that can mean 64 orders, or more, as far as the money goes: two for 100000 and 200000.
func crowd(most int) api.LetterLetter {
	all := make([]api.BookFit, 0, api.BookSizes)
	for size := 1; size <= api.BookSizes; size++ {
		all = append(all, fit(size, 1, 400, 100))
	}
	r := api.BookRack{Goods: 3, Issues: []api.BookIssue{{Days: span(5, 9), Held: 9, Entries: []api.BookEntry{
		sample.Entry(1, 0, 3, all...), sample.Entry(2, 1, 3, all...), sample.Entry(3, 2, 1, fit(1, 1, 400, 100000)),
	}}}}
	return api.LetterLetter{Rack: r, Days: span(0, 20), Money: span(0, most), Lines: []api.LetterLine{
		{Digits: []int{14}, Foot: span(1, 1), Colours: 3, Many: span(1, 2)},
	}}
}

// P2.2: all orders, in their order, each once.
func TestP2_2Orders(t *testing.T) {
	both := two()
	var all [][]api.BookLine
	for _, first := range lines(line(1, 0, 40, 0), line(2, 0, 40, 0), line(1, 0, 40, 1), line(2, 0, 40, 1), line(1, 0, 41, 0), line(2, 0, 41, 0), line(1, 0, 41, 1), line(2, 0, 41, 1), line(1, 1, 7, 0), line(2, 1, 7, 0)) {
		all = append(all, lines(first, line(1, 1, 7, 0)), lines(first, line(2, 1, 7, 0)))
	}
	for _, x := range []struct {
		name string
		l    api.LetterLetter
		want [][]api.BookLine
		e    api.Errno
	}{
		{"the example", example(), [][]api.BookLine{lines(line(1, 0, 40, 0)), lines(line(1, 0, 40, 1)), lines(line(1, 0, 41, 0)), lines(line(1, 0, 41, 1)), lines(line(1, 1, 7, 0)), lines(line(2, 1, 7, 0))}, api.OK},
		{"two lines", both, all, api.OK},
		{"by both books, and at two prices", with(days(0, 20000), sizes(40), colours(1), many(1, 1)), [][]api.BookLine{lines(line(1, 0, 40, 0))}, api.OK},
		{"no order", with(money(5, 200)), nil, api.ErrNone},
		{"65 orders", crowd(100000), nil, api.ErrFull},
		{"66 orders", crowd(200000), nil, api.ErrFull},
		{"65536 orders", largest(), nil, api.ErrFull},
	} {
		got, e := letter.Orders(x.l)
		if !slices.EqualFunc(got, x.want, slices.Equal) || e != x.e {
			t.Errorf("%s: %v, %d, not %v, %d", x.name, got, e, x.want, x.e)
		}
	}
	got, e := letter.Orders(crowd(99999))
	if len(got) != 64 || e != api.OK || !slices.IsSortedFunc(got, compare) {
		t.Errorf("64 orders: %v, %d", got, e)
	}
}

// P2.3: the items that a line can mean.
func TestP2_3Can(t *testing.T) {
	all := []api.BookItem{item(0, 40, 0), item(0, 40, 1), item(0, 41, 0), item(0, 41, 1), item(1, 7, 0)}
	for _, x := range []struct {
		name string
		l    api.LetterLetter
		line int
		want []api.BookItem
		e    api.Errno
	}{
		{"the example", example(), 0, all, api.OK},
		{"two lines, the first", two(), 0, all, api.OK},
		{"two lines, the second", two(), 1, []api.BookItem{item(1, 7, 0)}, api.OK},
		{"the money leaves a line less", with(second(sizes(40)), money(0, 1200)), 0, []api.BookItem{item(1, 7, 0)}, api.OK},
		{"the money leaves the other", with(second(sizes(40)), money(0, 1200)), 1, []api.BookItem{item(0, 40, 0), item(0, 40, 1)}, api.OK},
		{"a line below", example(), -1, nil, api.ErrLetterAsk},
		{"a line too many", example(), 1, nil, api.ErrLetterAsk},
		{"a third line", two(), 2, nil, api.ErrLetterAsk},
		{"no order", with(money(5, 200)), 0, nil, api.ErrNone},
		{"no order, and a line too many", with(money(5, 200)), 1, nil, api.ErrLetterAsk},
	} {
		if got, e := letter.Can(x.l, x.line); !slices.Equal(got, x.want) || e != x.e {
			t.Errorf("%s: %v, %d, not %v, %d", x.name, got, e, x.want, x.e)
		}
	}
	if got, e := letter.Can(crowd(200000), 0); len(got) != 33 || got[0] != item(0, 1, 0) || got[32] != item(2, 1, 0) || e != api.OK {
		t.Errorf("Can of 66 orders: %v, %d", got, e)
	}
	if got, e := letter.Can(largest(), 1); len(got) != 256 || e != api.OK {
		t.Errorf("Can of the largest: %d items, %d", len(got), e)
	}
}

// P2.3: what is the same in all orders.
func TestP2_3Sure(t *testing.T) {
	for _, x := range []struct {
		name string
		l    api.LetterLetter
		want []api.BookLine
		e    api.Errno
	}{
		{"the example", example(), lines(line(-1, -1, -1, -1)), api.OK},
		{"more money", with(money(900, 1000)), lines(line(1, 0, -1, -1)), api.OK},
		{"one order", with(money(300, 300)), lines(line(1, 1, 7, 0)), api.OK},
		{"one good", with(money(300, 600)), lines(line(-1, 1, 7, 0)), api.OK},
		{"one colour", with(money(900, 900), sizes(40, 41), colours(2)), lines(line(1, 0, 40, 1)), api.OK},
		{"one size", with(sizes(41)), lines(line(1, 0, 41, -1)), api.OK},
		{"two lines", two(), lines(line(-1, -1, -1, -1), line(-1, 1, 7, 0)), api.OK},
		{"66 orders", crowd(200000), lines(line(-1, -1, -1, -1)), api.OK},
		{"no order", with(money(5, 200)), nil, api.ErrNone},
	} {
		if got, e := letter.Sure(x.l); !slices.Equal(got, x.want) || e != x.e {
			t.Errorf("%s: %v, %d, not %v, %d", x.name, got, e, x.want, x.e)
		}
	}
}

// spread is a letter of 28 orders: for each field of each line two of them differ in this one alone, as there is money to make one line dearer, not both.
func spread() api.LetterLetter {
	r := api.BookRack{Goods: 2, Issues: []api.BookIssue{{Entries: []api.BookEntry{
		sample.Entry(1, 0, 3, fit(1, 1, 1, 100), fit(2, 1, 1, 200)), sample.Entry(2, 1, 3, fit(1, 1, 1, 200)),
	}}}}
	ln := api.LetterLine{Digits: []int{6}, Foot: span(1, 1), Colours: 3, Many: span(1, 2)}
	return api.LetterLetter{Rack: r, Money: span(200, 300), Lines: []api.LetterLine{ln, ln}}
}

// P2.4: the shortest question, and of several ones the first.
func TestP2_4Ask(t *testing.T) {
	one := with(money(300, 300))
	for _, x := range []struct {
		name string
		l    api.LetterLetter
		want []api.LetterAsk
		e    api.Errno
	}{
		{"the example", example(), []api.LetterAsk{ask(0, 1), ask(0, 2), ask(0, 3)}, api.OK},
		{"more money", with(money(900, 1000)), []api.LetterAsk{ask(0, 1), ask(0, 2)}, api.OK},
		{"more money, and a foot", with(money(900, 1000), foot(259, 260)), []api.LetterAsk{ask(0, 2)}, api.OK},
		{"one order", one, nil, api.OK},
		{"the good before the size", with(many(1, 1), colours(1), sizes(7, 40)), []api.LetterAsk{ask(0, 0)}, api.OK},
		{"pieces", with(money(300, 600)), []api.LetterAsk{ask(0, 3)}, api.OK},
		{"the good and pieces before size and pieces", with(colours(1), foot(255, 255)), []api.LetterAsk{ask(0, 0), ask(0, 3)}, api.OK},
		{"two lines", two(), []api.LetterAsk{ask(0, 1), ask(0, 2), ask(0, 3), ask(1, 3)}, api.OK},
		{"either line", with(many(1, 1), colours(1), sizes(7, 40), second(func(l *api.LetterLetter) { many(1, 1)(l); colours(1)(l); sizes(7, 40)(l) }), money(1200, 1200)), []api.LetterAsk{ask(0, 0)}, api.OK},
		{"the second line alone", with(many(1, 1), colours(1), sizes(7), second(func(l *api.LetterLetter) { many(1, 1)(l); sizes(40)(l) }), money(0, 1200)), []api.LetterAsk{ask(1, 2)}, api.OK},
		{"no order", with(money(5, 200)), nil, api.ErrNone},
		{"64 orders", crowd(99999), []api.LetterAsk{ask(0, 0), ask(0, 1), ask(0, 2), ask(0, 3)}, api.OK},
		{"65 orders", crowd(100000), nil, api.ErrFull},
		{"all pairs", spread(), []api.LetterAsk{ask(0, 0), ask(0, 1), ask(0, 2), ask(0, 3), ask(1, 0), ask(1, 1), ask(1, 2), ask(1, 3)}, api.OK},
	} {
		if got, e := letter.Ask(x.l); !slices.Equal(got, x.want) || e != x.e {
			t.Errorf("%s: %v, %d, not %v, %d", x.name, got, e, x.want, x.e)
		}
	}
}

// cheap adds a book that has 0 40 0 for 700 from the day 265 to 270.
func cheap(l *api.LetterLetter) {
	l.Rack.Issues = append(l.Rack.Issues, api.BookIssue{Days: span(265, 265), Held: 270, Entries: []api.BookEntry{
		sample.Entry(99, 0, 1, fit(40, 1, 1, 700)),
	}})
}

// P2.5: when an order can have been written.
func TestP2_5When(t *testing.T) {
	boot := lines(line(1, 0, 40, 0))
	for _, x := range []struct {
		name  string
		l     api.LetterLetter
		lines []api.BookLine
		want  api.Span
		e     api.Errno
	}{
		{"by both books", example(), boot, span(250, 290), api.OK},
		{"by the first one", example(), lines(line(1, 1, 7, 0)), span(250, 280), api.OK},
		{"not at all", example(), lines(line(2, 0, 40, 0)), api.Span{}, api.ErrNone},
		{"all days", with(days(0, 20000)), boot, span(100, 450), api.OK},
		{"the held price", with(days(0, 20000), money(0, 900)), boot, span(100, 300), api.OK},
		{"the price behind it", with(days(0, 20000), money(901, 1000)), boot, span(301, 450), api.OK},
		{"one day", with(days(280, 280)), lines(line(1, 1, 7, 0)), span(280, 280), api.OK},
		{"a day too late", with(days(281, 290)), lines(line(1, 1, 7, 0)), api.Span{}, api.ErrNone},
		{"not on some days between", with(cheap, money(900, 1000)), boot, span(250, 290), api.OK},
		{"not on the first days", with(cheap, money(900, 1000), days(265, 290)), boot, span(271, 290), api.OK},
		{"not on the last days", with(cheap, money(900, 1000), days(250, 270)), boot, span(250, 264), api.OK},
		{"on some days between", with(cheap, money(0, 700)), boot, span(265, 270), api.OK},
		{"two lines", two(), lines(line(1, 0, 40, 0), line(2, 1, 7, 0)), span(250, 280), api.OK},
		{"a line less", two(), boot, api.Span{}, api.ErrNone},
		{"a line more", example(), append(boot, boot...), api.Span{}, api.ErrNone},
		{"no lines", example(), nil, api.Span{}, api.ErrNone},
		{"no order", with(money(5, 200)), boot, api.Span{}, api.ErrNone},
	} {
		if got, e := letter.When(x.l, x.lines); got != x.want || e != x.e {
			t.Errorf("%s: %v, %d, not %v, %d", x.name, got, e, x.want, x.e)
		}
	}
}

// P2.5: what an order can cost.
func TestP2_5Cost(t *testing.T) {
	for _, x := range []struct {
		name string
		l    api.LetterLetter
		want api.Span
		e    api.Errno
	}{
		{"the example", example(), span(300, 950), api.OK},
		{"no order", with(money(5, 200)), api.Span{}, api.ErrNone},
		{"one order", with(money(300, 300)), span(300, 300), api.OK},
		{"one order at three prices", with(cheap, days(0, 20000), sizes(40), colours(1), many(1, 1)), span(700, 980), api.OK},
		{"without the lowest", with(cheap, days(0, 20000), sizes(40), colours(1), many(1, 1), money(701, 1000)), span(900, 980), api.OK},
		{"without the highest", with(cheap, days(0, 20000), sizes(40), colours(1), many(1, 1), money(0, 979)), span(700, 900), api.OK},
		{"a dozen", with(many(12, 12), money(0, 10000)), span(3300, 9900), api.OK},
		{"two lines", two(), span(600, 2500), api.OK},
		{"66 orders", crowd(200000), span(100, 200000), api.OK},
	} {
		if got, e := letter.Cost(x.l); got != x.want || e != x.e {
			t.Errorf("%s: %v, %d, not %v, %d", x.name, got, e, x.want, x.e)
		}
	}
}
