package namesake_test

import (
	"slices"
	"testing"

	"wishbook/api"
	"wishbook/namesake"
	"wishbook/sample"
)

var span = sample.Span

// question is what is asked about a book.
type question struct {
	letters, people []int
	one, other      int
}

// answers are what all functions return of a book.
type answers struct {
	check              api.Errno
	isOne, isTruth     bool
	many, fewest, same int
	first, torn        []int
	joined             [][]int
	ask                [2]int
	errnos             errnos
}

// errnos are the errors of all functions but Check.
type errnos struct{ isOne, isTruth, many, fewest, first, same, joined, ask, torn api.Errno }

func askAll(b api.NamesakeBook, q question) answers {
	var a answers
	a.check = namesake.Check(b)
	a.isOne, a.errnos.isOne = namesake.IsOne(b, q.letters)
	a.isTruth, a.errnos.isTruth = namesake.IsTruth(b, q.people)
	a.many, a.errnos.many = namesake.Many(b)
	a.fewest, a.errnos.fewest = namesake.Fewest(b)
	a.first, a.errnos.first = namesake.First(b)
	a.same, a.errnos.same = namesake.Same(b, q.one, q.other)
	a.joined, a.errnos.joined = namesake.Joined(b)
	a.ask[0], a.ask[1], a.errnos.ask = namesake.Ask(b)
	a.torn, a.errnos.torn = namesake.Torn(b)
	return a
}

// areZero reports whether with each error the other results are zero.
func (a answers) areZero() bool {
	e := a.errnos
	return (e.isOne == api.OK || !a.isOne) && (e.isTruth == api.OK || !a.isTruth) && (e.many == api.OK || a.many == 0) &&
		(e.fewest == api.OK || a.fewest == 0) && (e.first == api.OK || len(a.first) == 0) && (e.same == api.OK || a.same == 0) &&
		(e.joined == api.OK || len(a.joined) == 0) && (e.ask == api.OK || a.ask == [2]int{}) && (e.torn == api.OK || len(a.torn) == 0)
}

// change makes another book of the example.
type change struct {
	name string
	do   func(b *api.NamesakeBook)
}

func changed(do func(b *api.NamesakeBook)) api.NamesakeBook {
	b := example()
	do(&b)
	return b
}

func with(i int, l api.NamesakeLetter) func(b *api.NamesakeBook) {
	return func(b *api.NamesakeBook) { b.Letters[i] = l }
}

func ways(rows ...[]int) func(b *api.NamesakeBook) {
	return func(b *api.NamesakeBook) { b.Far = rows }
}

func apart(pairs ...[2]int) func(b *api.NamesakeBook) {
	return func(b *api.NamesakeBook) { b.Apart = pairs }
}

func most(people int) func(b *api.NamesakeBook) {
	return func(b *api.NamesakeBook) { b.Most = people }
}

func wrongLetters() []change {
	return []change{
		{"nothing", func(b *api.NamesakeBook) { *b = api.NamesakeBook{} }},
		{"no letters", func(b *api.NamesakeBook) { b.Letters = nil }},
		{"9 letters", func(b *api.NamesakeBook) { *b = free(9, 3) }},
		{"a day below 0", with(0, letter(-1, 0, 50, 60))},
		{"a day behind the last one", with(4, letter(20001, 0, 30, 45))},
		{"a day before that of the letter before it", with(4, letter(29, 0, 30, 45))},
		{"a day behind that of the next letter", with(0, letter(13, 0, 50, 60))},
		{"a place below 0", with(0, letter(10, -1, 50, 60))},
		{"a place too many", with(4, letter(40, 2, 30, 45))},
		{"born before the first year", with(1, letter(12, 1, -1, 55))},
		{"born behind the last year", with(1, letter(12, 1, 40, 201))},
		{"born from a year to the one before it", with(4, letter(40, 0, 45, 44))},
		{"an account below 0", with(2, named(letter(20, 0, 56, 70), -1))},
		{"an account above 1000", with(4, named(letter(40, 0, 30, 45), 1001))},
	}
}

func wrongWays() []change {
	row := list(0, 0, 0, 0, 0, 0, 0)
	return []change{
		{"no places", ways()},
		{"7 places", ways(row, row, row, row, row, row, row)},
		{"a row too few", ways(list(0, 5))},
		{"a row too many", ways(list(0, 5), list(5, 0), list(5, 5))},
		{"an empty row", ways(list(0, 5), nil)},
		{"a row that is too short", ways(list(0, 5), list(5))},
		{"a first row that is too short", ways(list(0), list(5, 0))},
		{"a row that is too long", ways(list(0, 5), list(5, 0, 5))},
		{"a first row that is too long", ways(list(0, 5, 5), list(5, 0))},
		{"a way below 0", ways(list(0, -1), list(5, 0))},
		{"a way of 401 days", ways(list(0, 5), list(401, 0))},
		{"a way from the first place to itself", ways(list(1, 5), list(5, 0))},
		{"a way from the last place to itself", ways(list(0, 5), list(5, 1))},
	}
}

func wrongPairs() []change {
	nine := pairs([2]int{0, 1}, [2]int{0, 2}, [2]int{0, 4}, [2]int{1, 2}, [2]int{1, 3}, [2]int{1, 4}, [2]int{2, 3}, [2]int{2, 4}, [2]int{3, 4})
	return []change{
		{"9 pairs", apart(nine...)},
		{"a letter and itself", apart([2]int{1, 1})},
		{"a pair the other way around", apart([2]int{0, 1}, [2]int{2, 1})},
		{"a letter below 0", apart([2]int{-1, 1})},
		{"two letters below 0", apart([2]int{-2, -1})},
		{"a letter too many", apart([2]int{0, 1}, [2]int{4, 5})},
		{"two letters too many", apart([2]int{5, 6})},
		{"a pair twice", apart([2]int{0, 1}, [2]int{0, 1})},
		{"a pair again", apart([2]int{0, 1}, [2]int{1, 4}, [2]int{0, 2}, [2]int{1, 4})},
		{"no people at most", most(0)},
		{"people below 0 at most", most(-1)},
		{"9 people at most", most(9)},
	}
}

func rightBooks() []change {
	return []change{
		{"the example", func(b *api.NamesakeBook) {}},
		{"the largest", func(b *api.NamesakeBook) { *b = largest() }},
		{"one letter", func(b *api.NamesakeBook) { *b = free(1, 1) }},
		{"8 letters", func(b *api.NamesakeBook) { *b = free(8, 8) }},
		{"the least numbers", with(0, letter(0, 0, 0, 0))},
		{"the greatest numbers", with(4, dead(named(letter(20000, 1, 200, 200), 1000)))},
		{"two letters of one day", with(1, letter(10, 1, 0, 200))},
		{"any ways", ways(list(0, 400), list(0, 0))},
		{"6 places", ways(list(0, 1, 2, 3, 4, 5), list(9, 0, 9, 9, 9, 9), list(0, 0, 0, 0, 0, 0), list(1, 1, 1, 0, 1, 1), list(2, 2, 2, 2, 0, 2), list(400, 400, 400, 400, 400, 0))},
		{"8 pairs, in any order", apart([2]int{3, 4}, [2]int{0, 2}, [2]int{0, 4}, [2]int{1, 2}, [2]int{1, 3}, [2]int{1, 4}, [2]int{0, 1}, [2]int{2, 4})},
		{"1 at most", most(1)},
		{"8 at most", most(8)},
	}
}

// P8.1: which books are valid, and that this error is the first one.
func TestP8_1Check(t *testing.T) {
	const e = api.ErrNamesake
	for _, c := range slices.Concat(wrongLetters(), wrongWays(), wrongPairs()) {
		b := changed(c.do)
		for _, q := range []question{{list(0), list(0, 1, 0, 0, 1), 0, 1}, {nil, nil, -1, 9}, {list(9, 8), list(1), 9, 9}} {
			if a := askAll(b, q); a.check != e || a.errnos != (errnos{e, e, e, e, e, e, e, e, e}) || !a.areZero() {
				t.Errorf("%s: %v", c.name, a)
			}
		}
	}
	const ask = api.ErrNamesakeAsk
	for _, c := range rightBooks() {
		b := changed(c.do)
		a := askAll(b, question{nil, nil, 0, len(b.Letters)})
		if a.check != api.OK || a.errnos.isOne != ask || a.errnos.isTruth != api.OK || a.errnos.many != api.OK || a.errnos.same != ask || a.errnos.torn == e || !a.areZero() {
			t.Errorf("%s: %v", c.name, a)
		}
	}
}

// P8.1: what can be asked about: letters, strictly increasing, one at least; P8.4: two letters.
func TestP8_1Letters(t *testing.T) {
	for _, x := range []struct {
		name    string
		letters []int
		want    bool
	}{
		{"one", list(0), true},
		{"the last one", list(4), true},
		{"all", list(0, 1, 2, 3, 4), true},
		{"none", nil, false},
		{"an empty list", list(), false},
		{"-1", list(-1), false},
		{"-1 before another one", list(-1, 0), false},
		{"one too many", list(5), false},
		{"one too many behind another one", list(0, 5), false},
		{"one twice", list(1, 1), false},
		{"one twice at the end", list(0, 3, 3), false},
		{"decreasing", list(1, 0), false},
		{"one again", list(0, 3, 0), false},
		{"more than there are", list(0, 1, 2, 3, 4, 5), false},
		{"more than there can be", list(0, 1, 2, 3, 4, 5, 6, 7, 8), false},
	} {
		want := api.OK
		if !x.want {
			want = api.ErrNamesakeAsk
		}
		if is, e := namesake.IsOne(example(), x.letters); e != want || is && !x.want {
			t.Errorf("IsOne: %s: %v, %d, not %d", x.name, is, e, want)
		}
	}
	for one := -2; one < 8; one++ {
		for other := -2; other < 8; other++ {
			want := api.ErrNamesakeAsk
			if 0 <= one && one < 5 && 0 <= other && other < 5 {
				want = api.OK
			}
			if same, e := namesake.Same(example(), one, other); e != want || want != api.OK && same != 0 {
				t.Errorf("Same of %d and %d: %d, %d, not %d", one, other, same, e, want)
			}
		}
	}
}

// P8.1: which letters can be of one person.
func TestP8_1IsOne(t *testing.T) {
	detour := lists(list(0, 1, 9), list(1, 0, 1), list(9, 1, 0))
	hole := lists(list(0, 9, 2), list(9, 0, 9), list(2, 9, 0))
	steep := lists(list(0, 2), list(1, 0))
	for _, x := range []struct {
		name    string
		b       api.NamesakeBook
		letters []int
		want    bool
	}{
		{"0 2", example(), list(0, 2), true},
		{"0 1: too far", example(), list(0, 1), false},
		{"1 2: born apart", example(), list(1, 2), false},
		{"0 3", example(), list(0, 3), true},
		{"2 3", example(), list(2, 3), true},
		{"1 4", example(), list(1, 4), true},
		{"0 4: born apart", example(), list(0, 4), false},
		{"0 2 3", example(), list(0, 2, 3), true},
		{"a letter alone", example(), list(4), true},
		{"just as many days as the way takes", changed(with(1, letter(15, 1, 40, 55))), list(0, 1), true},
		{"a day too few", changed(with(1, letter(14, 1, 40, 55))), list(0, 1), false},
		{"the way there takes more than a day", from(1, steep, 0, 1), list(0, 1), false},
		{"the way back takes a day", from(1, steep, 1, 0), list(0, 1), true},
		{"two places in two days", from(1, detour, 0, 1, 2), list(0, 1, 2), true},
		{"not straight to the last one", from(1, detour, 0, 1, 2), list(0, 2), false},
		{"straight to the last one", from(1, hole, 0, 1, 2), list(0, 2), true},
		{"not with the one between", from(1, hole, 0, 1, 2), list(0, 1, 2), false},
		{"not behind the one before", from(1, hole, 1, 0, 1, 2), list(0, 1, 3), false},
		{"on one day, from one place", free(2, 1), list(0, 1), true},
		{"born in the only year in common", born(1, span(0, 10), span(10, 20)), list(0, 1), true},
		{"born a year apart", born(1, span(0, 9), span(10, 20)), list(0, 1), false},
		{"three, born in the only year in common", born(1, span(0, 10), span(5, 15), span(10, 20)), list(0, 1, 2), true},
		{"three, the first one and the last one born apart", born(1, span(0, 9), span(5, 15), span(10, 20)), list(0, 1, 2), false},
		{"two of them", born(1, span(0, 9), span(5, 15), span(10, 20)), list(1, 2), true},
		{"born in the last year", born(1, span(200, 200), span(0, 200)), list(0, 1), true},
		{"born in the first year", born(1, span(0, 0), span(0, 200)), list(0, 1), true},
		{"the last one is dead", deaths(3, 1, 2), list(0, 1, 2), true},
		{"one before it is dead", deaths(3, 1, 1), list(0, 1, 2), false},
		{"the first one is dead", deaths(3, 1, 0), list(0, 1, 2), false},
		{"dead, without the others", deaths(3, 1, 1), list(0, 1), true},
		{"without the dead one", deaths(3, 1, 1), list(0, 2), true},
		{"dead twice", deaths(3, 1, 1, 2), list(1, 2), false},
		{"dead, alone", deaths(3, 1, 1), list(1), true},
		{"a pair", free(3, 1, [2]int{0, 1}), list(0, 1), false},
		{"a pair, and another one behind it", free(3, 1, [2]int{0, 1}), list(0, 1, 2), false},
		{"a pair, and another one between", free(3, 1, [2]int{0, 2}), list(0, 1, 2), false},
		{"one of a pair", free(3, 1, [2]int{0, 2}), list(0, 1), true},
		{"one of each pair", free(4, 1, [2]int{0, 1}, [2]int{2, 3}), list(1, 2), true},
		{"the last pair", free(4, 1, [2]int{0, 1}, [2]int{2, 3}), list(2, 3), false},
		{"two accounts", accounts(8, 1, 2), list(0, 1), true},
		{"all with an account but one", accounts(8, 1, 1, 0), list(1, 2), true},
		{"more letters of others than people", free(8, 1, [2]int{0, 1}), list(1, 2, 3, 4, 5, 6, 7), true},
	} {
		if got, e := namesake.IsOne(x.b, x.letters); got != x.want || e != api.OK {
			t.Errorf("IsOne: %s: %v, %d", x.name, got, e)
		}
	}
}

// P8.1: what is a truth.
func TestP8_1IsTruth(t *testing.T) {
	for _, x := range []struct {
		name   string
		b      api.NamesakeBook
		people []int
		want   bool
	}{
		{"0 1 0 0 1", example(), list(0, 1, 0, 0, 1), true},
		{"0 1 2 0 1", example(), list(0, 1, 2, 0, 1), true},
		{"0 1 2 0 2: born apart", example(), list(0, 1, 2, 0, 2), false},
		{"0 1 0 0 2", example(), list(0, 1, 0, 0, 2), true},
		{"one person too many", example(), list(0, 1, 2, 0, 3), false},
		{"as many people as can be", changed(most(4)), list(0, 1, 2, 0, 3), true},
		{"an account of two people", changed(most(8)), list(0, 1, 0, 2, 1), false},
		{"not from 0 on", example(), list(1, 0, 1, 1, 0), false},
		{"a number is left out", changed(most(8)), list(0, 1, 3, 0, 1), false},
		{"the second number is left out", changed(most(8)), list(0, 2, 0, 0, 2), false},
		{"not in the order of the first letters", changed(most(8)), list(0, 2, 1, 0, 2), false},
		{"a number below 0", example(), list(0, -1, 0, 0, -1), false},
		{"all below 0", free(2, 1), list(-1, -1), false},
		{"one too few", example(), list(0, 1, 0, 0), false},
		{"one too many", example(), list(0, 1, 0, 0, 1, 1), false},
		{"more than there can be", example(), list(0, 1, 0, 0, 1, 0, 0, 0, 0, 0), false},
		{"nobody", example(), nil, false},
		{"one letter", free(1, 1), list(0), true},
		{"one letter, of the person 1", free(1, 8), list(1), false},
		{"all of different people", free(8, 8), list(0, 1, 2, 3, 4, 5, 6, 7), true},
		{"all of one", free(8, 1), list(0, 0, 0, 0, 0, 0, 0, 0), true},
		{"two at most", free(4, 2), list(0, 1, 1, 0), true},
		{"three are too many", free(4, 2), list(0, 1, 1, 2), false},
		{"two accounts of one person", accounts(2, 3, 4), list(0, 0), true},
		{"two accounts of two people", accounts(2, 3, 4), list(0, 1), true},
		{"the account 0 of two people", accounts(2, 0, 0), list(0, 1), true},
		{"the account 1 of two people", accounts(2, 1, 1), list(0, 1), false},
		{"an account of the first and the last one", accounts(3, 9, 8, 7, 9), list(0, 1, 2, 0), true},
		{"an account of two, but not of the last one", accounts(3, 9, 9, 8, 9), list(0, 0, 1, 1), false},
		{"a pair of one person", free(3, 3, [2]int{1, 2}), list(0, 1, 1), false},
		{"a pair of two people", free(3, 3, [2]int{1, 2}), list(0, 1, 0), true},
		{"dead, and a letter of another one", deaths(2, 2, 0), list(0, 1), true},
		{"dead, and a letter more", deaths(2, 2, 0), list(0, 0), false},
		{"nothing can be", accounts(8, 5, 5), list(0, 0), true},
	} {
		if got, e := namesake.IsTruth(x.b, x.people); got != x.want || e != api.OK {
			t.Errorf("IsTruth: %s: %v, %d", x.name, got, e)
		}
	}
}

// tornBook is a book whose two first letters name one account, but surely are of two people.
func tornBook(letters, most int) api.NamesakeBook {
	b := free(letters, most, [2]int{0, 1})
	b.Letters[0].Account, b.Letters[1].Account = 6, 6
	return b
}

// P8.2: how many truths there are; P8.3: the fewest people, and the first truth with so few.
func TestP8_3Truths(t *testing.T) {
	detour := lists(list(0, 1, 9), list(1, 0, 1), list(9, 1, 0))
	for _, x := range []struct {
		name   string
		b      api.NamesakeBook
		many   int
		fewest int
		first  []int
	}{
		{"the example", example(), 3, 2, list(0, 1, 0, 0, 1)},
		{"the example, two at most", changed(most(2)), 1, 2, list(0, 1, 0, 0, 1)},
		{"the example, four at most", changed(most(4)), 4, 2, list(0, 1, 0, 0, 1)},
		{"the example, one at most", changed(most(1)), 0, 0, nil},
		{"one letter", free(1, 1), 1, 1, list(0)},
		{"two letters", free(2, 2), 2, 1, list(0, 0)},
		{"three letters", free(3, 3), 5, 1, list(0, 0, 0)},
		{"three letters, two at most", free(3, 2), 4, 1, list(0, 0, 0)},
		{"8 letters", free(8, 8), 4140, 1, list(0, 0, 0, 0, 0, 0, 0, 0)},
		{"8 letters, 7 at most", free(8, 7), 4139, 1, list(0, 0, 0, 0, 0, 0, 0, 0)},
		{"8 letters, two at most", free(8, 2), 128, 1, list(0, 0, 0, 0, 0, 0, 0, 0)},
		{"a pair", free(3, 3, [2]int{0, 2}), 3, 2, list(0, 0, 1)},
		{"a pair, in two ways", free(3, 3, [2]int{1, 2}), 3, 2, list(0, 0, 1)},
		{"a pair at the beginning", free(4, 2, [2]int{0, 1}), 4, 2, list(0, 1, 0, 0)},
		{"each with each", free(3, 3, [2]int{0, 1}, [2]int{0, 2}, [2]int{1, 2}), 1, 3, list(0, 1, 2)},
		{"each with each, two at most", free(3, 2, [2]int{0, 1}, [2]int{0, 2}, [2]int{1, 2}), 0, 0, nil},
		{"an account, but a pair", tornBook(3, 8), 0, 0, nil},
		{"fewest, not what is first of all", free(4, 4, [2]int{0, 2}, [2]int{1, 3}, [2]int{2, 3}), 5, 2, list(0, 1, 1, 0)},
		{"a dead one", deaths(2, 2, 0), 1, 2, list(0, 1)},
		{"a dead one at the end", deaths(2, 2, 1), 2, 1, list(0, 0)},
		{"two places, and the one between", from(3, detour, 0, 1, 2), 4, 1, list(0, 0, 0)},
		{"two places, without the one between", from(3, detour, 0, 2), 1, 2, list(0, 1)},
		{"three years", born(3, span(0, 9), span(5, 15), span(10, 20)), 3, 2, list(0, 0, 1)},
		{"an account", accounts(3, 4, 0, 4), 2, 1, list(0, 0, 0)},
		{"two accounts", accounts(4, 4, 5, 4, 5), 2, 1, list(0, 0, 0, 0)},
	} {
		want := api.OK
		if x.many == 0 {
			want = api.ErrNamesakeFalse
		}
		if got, e := namesake.Many(x.b); got != x.many || e != api.OK {
			t.Errorf("Many: %s: %d, %d, not %d", x.name, got, e, x.many)
		}
		if got, e := namesake.Fewest(x.b); got != x.fewest || e != want {
			t.Errorf("Fewest: %s: %d, %d, not %d, %d", x.name, got, e, x.fewest, want)
		}
		if got, e := namesake.First(x.b); !slices.Equal(got, x.first) || e != want {
			t.Errorf("First: %s: %v, %d, not %v, %d", x.name, got, e, x.first, want)
		}
		a := askAll(x.b, question{})
		if a.errnos.same != want || a.errnos.joined != want || x.many == 0 && a.errnos.ask != want || (a.errnos.torn == api.ErrNone) != (x.many > 0) || !a.areZero() {
			t.Errorf("%s: %v, not %d", x.name, a, want)
		}
	}
}

// P8.4: what is known of two letters.
func TestP8_4Same(t *testing.T) {
	const no, may, yes = api.NamesakeNo, api.NamesakeMay, api.NamesakeYes
	for _, x := range []struct {
		name       string
		b          api.NamesakeBook
		one, other int
		want       int
	}{
		{"0 and 3", example(), 0, 3, yes},
		{"0 and 2", example(), 0, 2, may},
		{"1 and 4", example(), 1, 4, may},
		{"0 and 1", example(), 0, 1, no},
		{"2 and 4", example(), 2, 4, no},
		{"2 and 3", example(), 2, 3, may},
		{"a letter and itself", example(), 4, 4, yes},
		{"the first letter and itself", example(), 0, 0, yes},
		{"the later letter first", example(), 3, 0, yes},
		{"the later letter first, perhaps", example(), 4, 1, may},
		{"the later letter first, surely not", example(), 1, 0, no},
		{"two at most", changed(most(2)), 1, 4, yes},
		{"two at most, the others", changed(most(2)), 0, 2, yes},
		{"one at most", free(2, 1), 0, 1, yes},
		{"two letters", free(2, 2), 0, 1, may},
		{"a pair", free(2, 2, [2]int{0, 1}), 0, 1, no},
		{"two of one pair each, two at most", free(3, 2, [2]int{0, 1}, [2]int{1, 2}), 0, 2, yes},
		{"two of one pair each, three at most", free(3, 3, [2]int{0, 1}, [2]int{1, 2}), 0, 2, may},
		{"an account keeps a third one away", func() api.NamesakeBook {
			b := accounts(3, 1, 1, 0)
			b.Apart = pairs([2]int{1, 2})
			return b
		}(), 0, 2, no},
	} {
		if got, e := namesake.Same(x.b, x.one, x.other); got != x.want || e != api.OK {
			t.Errorf("Same: %s: %d, %d, not %d", x.name, got, e, x.want)
		}
	}
	for _, x := range []struct {
		one, other int
		want       api.Errno
	}{
		{0, 1, api.ErrNamesakeFalse}, {1, 1, api.ErrNamesakeFalse}, {0, 3, api.ErrNamesakeAsk}, {-1, 0, api.ErrNamesakeAsk}, {7, 7, api.ErrNamesakeAsk},
	} {
		if got, e := namesake.Same(tornBook(3, 8), x.one, x.other); got != 0 || e != x.want {
			t.Errorf("Same of %d and %d without a truth: %d, %d, not %d", x.one, x.other, got, e, x.want)
		}
	}
}

// P8.4: the letters that are surely of one person.
func TestP8_4Joined(t *testing.T) {
	for _, x := range []struct {
		name string
		b    api.NamesakeBook
		want [][]int
	}{
		{"the example", example(), lists(list(0, 3), list(1), list(2), list(4))},
		{"the example, two at most", changed(most(2)), lists(list(0, 2, 3), list(1, 4))},
		{"one letter", free(1, 1), lists(list(0))},
		{"all", free(4, 1), lists(list(0, 1, 2, 3))},
		{"none", free(3, 3), lists(list(0), list(1), list(2))},
		{"two accounts", accounts(4, 3, 5, 3, 5), lists(list(0, 2), list(1, 3))},
		{"two accounts, one in the other one", accounts(4, 3, 5, 5, 3), lists(list(0, 3), list(1, 2))},
		{"three of an account", accounts(5, 0, 2, 0, 2, 2), lists(list(0), list(1, 3, 4), list(2))},
		{"two of one pair each", free(3, 2, [2]int{0, 1}, [2]int{1, 2}), lists(list(0, 2), list(1))},
		{"the largest, without pairs and deaths", func() api.NamesakeBook {
			b := largest()
			b.Apart, b.Far = nil, slices.Repeat(lists(list(0, 0, 0, 0, 0, 0)), 6)
			for i := range b.Letters {
				b.Letters[i].Dead = false
			}
			return b
		}(), lists(list(0, 1, 2, 3, 4, 5, 6, 7))},
	} {
		if got, e := namesake.Joined(x.b); !slices.EqualFunc(got, x.want, slices.Equal) || e != api.OK {
			t.Errorf("Joined: %s: %v, %d, not %v", x.name, got, e, x.want)
		}
	}
	if got, e := namesake.Joined(tornBook(3, 8)); len(got) > 0 || e != api.ErrNamesakeFalse {
		t.Errorf("Joined without a truth: %v, %d", got, e)
	}
}

// P8.5: about which two letters a question tells the most.
func TestP8_5Ask(t *testing.T) {
	for _, x := range []struct {
		name string
		b    api.NamesakeBook
		want [2]int
		e    api.Errno
	}{
		{"the example", example(), [2]int{0, 2}, api.OK},
		{"the example, one truth", changed(most(2)), [2]int{}, api.ErrNone},
		{"the example, no truth", changed(most(1)), [2]int{}, api.ErrNamesakeFalse},
		{"one letter", free(1, 8), [2]int{}, api.ErrNone},
		{"two letters", free(2, 2), [2]int{0, 1}, api.OK},
		{"two letters of one person", free(2, 1), [2]int{}, api.ErrNone},
		{"two letters of two people", free(2, 2, [2]int{0, 1}), [2]int{}, api.ErrNone},
		{"all pairs alike", free(3, 3), [2]int{0, 1}, api.OK},
		{"all pairs alike, two at most", free(4, 2), [2]int{0, 1}, api.OK},
		{"the first pair is known", free(3, 3, [2]int{0, 1}), [2]int{0, 2}, api.OK},
		{"the first letter is known", free(3, 2, [2]int{0, 1}, [2]int{0, 2}), [2]int{}, api.ErrNone},
		{"only the last two are not known", free(3, 3, [2]int{0, 1}, [2]int{0, 2}), [2]int{1, 2}, api.OK},
		{"the first pair is known, all others alike", free(4, 4, [2]int{0, 1}), [2]int{0, 2}, api.OK},
		{"a later pair tells more", free(4, 4, [2]int{0, 1}, [2]int{0, 2}), [2]int{1, 2}, api.OK},
		{"yes is the worst", free(4, 3, [2]int{0, 1}, [2]int{0, 2}, [2]int{1, 3}, [2]int{2, 3}), [2]int{0, 3}, api.OK},
		{"three of an account, and another one", accounts(2, 1, 1, 1, 0), [2]int{0, 3}, api.OK},
		{"an account, but a pair", tornBook(4, 8), [2]int{}, api.ErrNamesakeFalse},
	} {
		one, other, e := namesake.Ask(x.b)
		if got := [2]int{one, other}; got != x.want || e != x.e {
			t.Errorf("Ask: %s: %v, %d, not %v, %d", x.name, got, e, x.want, x.e)
		}
	}
}

// P8.6: the fewest letters without which there is a truth.
func TestP8_6Torn(t *testing.T) {
	detour := lists(list(0, 1, 9), list(1, 0, 1), list(9, 1, 0))
	hole := lists(list(0, 9, 2), list(9, 0, 9), list(2, 9, 0))
	many := free(5, 1, [2]int{1, 2}, [2]int{2, 3}, [2]int{3, 4}, [2]int{0, 4}, [2]int{0, 3}, [2]int{0, 2})
	late := free(4, 2, [2]int{2, 3})
	late.Letters[2].Account, late.Letters[3].Account = 1, 1
	for _, x := range []struct {
		name string
		b    api.NamesakeBook
		want []int
	}{
		{"the example", example(), nil},
		{"the example, one at most", changed(most(1)), list(1, 4)},
		{"one letter", free(1, 1), nil},
		{"an account, but a pair", tornBook(3, 8), list(0)},
		{"an account of the last two, but a pair", late, list(2)},
		{"a pair, one at most", free(2, 1, [2]int{0, 1}), list(0)},
		{"a later pair, one at most", free(5, 1, [2]int{2, 4}), list(2)},
		{"one of two pairs", free(4, 1, [2]int{0, 3}, [2]int{1, 3}), list(3)},
		{"two pairs", free(4, 1, [2]int{0, 3}, [2]int{1, 2}), list(0, 1)},
		{"the pairs of those that are left", free(5, 1, [2]int{0, 1}, [2]int{2, 3}, [2]int{2, 4}), list(0, 2)},
		{"each with each, two at most", free(3, 2, [2]int{0, 1}, [2]int{0, 2}, [2]int{1, 2}), list(0)},
		{"each with each of four, two at most", free(4, 2, [2]int{0, 1}, [2]int{0, 2}, [2]int{0, 3}, [2]int{1, 2}, [2]int{1, 3}, [2]int{2, 3}), list(0, 1)},
		{"many pairs", many, list(0, 1, 3)},
		{"a dead one", deaths(3, 1, 0), list(0)},
		{"a dead one between", deaths(3, 1, 1), list(1)},
		{"all dead", deaths(4, 1, 0, 1, 2, 3), list(0, 1, 2)},
		{"the one between is too far", from(1, hole, 0, 1, 2), list(1)},
		{"the one between must stay", from(1, detour, 0, 1, 2, 0), list(2)},
		{"the first and the last one are too far", from(1, detour, 0, 2), list(0)},
		{"born apart", born(1, span(0, 3), span(3, 9), span(4, 9), span(9, 9)), list(0)},
		{"born apart, the last one", born(1, span(0, 3), span(3, 9), span(0, 9), span(9, 9)), list(0)},
		{"born apart, one between", born(1, span(0, 3), span(4, 9), span(0, 9), span(3, 9)), list(0)},
		{"the last one was born apart", born(1, span(0, 3), span(3, 9), span(2, 9), span(4, 4), span(1, 3)), list(3)},
	} {
		want := api.OK
		if x.want == nil {
			want = api.ErrNone
		}
		if got, e := namesake.Torn(x.b); !slices.Equal(got, x.want) || e != want {
			t.Errorf("Torn: %s: %v, %d, not %v, %d", x.name, got, e, x.want, want)
		}
	}
}
