package letter_test

import (
	"math"
	"math/rand"
	"reflect"
	"slices"
	"testing"

	"wishbook/api"
	"wishbook/letter"
	"wishbook/sample"
)

// answers are what all functions return of a letter.
type answers struct {
	is     bool
	many   int
	orders [][]api.BookLine
	can    [2][]api.BookItem
	sure   []api.BookLine
	ask    []api.LetterAsk
	spans  [2]api.Span
	errnos [10]api.Errno
}

func askAll(l api.LetterLetter, order []api.BookLine) answers {
	var a answers
	a.errnos[0] = letter.Check(l)
	a.is, a.errnos[1] = letter.IsOrder(l, order)
	a.many, a.errnos[2] = letter.Many(l)
	a.orders, a.errnos[3] = letter.Orders(l)
	a.can[0], a.errnos[4] = letter.Can(l, 0)
	a.can[1], a.errnos[5] = letter.Can(l, 1)
	a.sure, a.errnos[6] = letter.Sure(l)
	a.ask, a.errnos[7] = letter.Ask(l)
	a.spans[0], a.errnos[8] = letter.When(l, order)
	a.spans[1], a.errnos[9] = letter.Cost(l)
	return a
}

func usual() []api.BookLine { return lines(line(1, 0, 40, 1), line(2, 1, 7, 0)) }

// P2.6: arguments are as they were, also behind their ends.
func TestP2_6ArgumentsAreOnlyRead(t *testing.T) {
	l, before := clone(two()), clone(two())
	order := append(usual(), line(-1, -1, -1, -1))[:2]
	askAll(l, order)
	if !reflect.DeepEqual(l, before) || !slices.Equal(order, usual()) {
		t.Errorf("an argument was changed: %v, %v", l, order)
	}
	if order[:3][2] != line(-1, -1, -1, -1) || l.Lines[:3][2].Colours != -1 || l.Rack.Issues[:3][2].Held != -1 {
		t.Errorf("something was written behind a list: %v, %v, %v", order[:3], l.Lines[:3], l.Rack.Issues[:3])
	}
	for _, ln := range l.Lines {
		if ln.Digits[:3][2] != -1 || ln.Sizes[:len(ln.Sizes)+1][len(ln.Sizes)] != -1 {
			t.Errorf("something was written behind a list of %v", ln)
		}
	}
}

// P2.6: arguments are not retained, and results are new memory, of which no two lists share any.
func TestP2_6ResultsAreNewMemory(t *testing.T) {
	l, order := two(), usual()
	want, got := askAll(l, order), askAll(l, order)
	for _, list := range append(got.orders, got.sure) {
		for i := range list[:cap(list)] {
			list[:cap(list)][i].Many++
		}
	}
	for k, o := range got.orders {
		for i := range o {
			if o[i].Many != want.orders[k][i].Many+1 {
				t.Fatalf("the order %d shares memory with another one: %v", k, got.orders)
			}
		}
	}
	for i := range got.can[0] {
		got.can[0][i].Good = -7
	}
	for i := range got.ask[:cap(got.ask)] {
		got.ask[:cap(got.ask)][i].Line = -7
	}
	if again := askAll(l, order); !reflect.DeepEqual(again, want) {
		t.Errorf("after results were changed: %v, not %v", again, want)
	}
	held := askAll(l, order)
	l.Lines[0].Digits[1], l.Rack.Issues[0].Entries[0].Sizes[0].Size, order[0].Many = 2, 39, 2
	if !reflect.DeepEqual(held, want) {
		t.Errorf("after the arguments were changed: %v, not %v", held, want)
	}
	if reflect.DeepEqual(askAll(l, order), want) {
		t.Errorf("a changed letter answers as before: %v", want)
	}
}

// P2.7: what is told is just what the definitions say.
func TestP2_7AllThatItCanMean(t *testing.T) {
	sizes := map[int]int{}
	eachLetter(t, 2000, func(rnd *rand.Rand, l api.LetterLetter) {
		truths := plain(l)
		sizes[min(len(truths), 2)]++
		if n, e := letter.Many(l); n != len(truths) || e != api.OK {
			t.Fatalf("Many of %v: %d, %d, not %d", l, n, e, len(truths))
		}
		checkOrders(t, l, truths)
		checkParts(t, l, truths)
		checkCost(t, l, truths)
		for _, x := range truths {
			if got, e := letter.When(l, x.lines); got != x.days || e != api.OK {
				t.Fatalf("When of %v, %v: %v, %d, not %v", l, x.lines, got, e, x.days)
			}
			checkIsOrder(t, l, truths, x.lines)
			for _, other := range neighbours(rnd, x.lines) {
				checkIsOrder(t, l, truths, other)
			}
		}
	})
	if sizes[0] < 100 || sizes[1] < 30 || sizes[2] < 100 {
		t.Errorf("letters with no order, one, and more of them: %v", sizes)
	}
}

func errorOf(truths []truth) api.Errno {
	if len(truths) == 0 {
		return api.ErrNone
	}
	return api.OK
}

func checkOrders(t *testing.T, l api.LetterLetter, truths []truth) {
	t.Helper()
	var want [][]api.BookLine
	for _, x := range truths {
		want = append(want, x.lines)
	}
	e := errorOf(truths)
	if len(truths) > api.LetterOrders {
		want, e = nil, api.ErrFull
	}
	if got, f := letter.Orders(l); !slices.EqualFunc(got, want, slices.Equal) || f != e {
		t.Fatalf("Orders of %v: %v, %d, not %v, %d", l, got, f, want, e)
	}
}

// checkParts checks what each line can mean, and what is sure in it.
func checkParts(t *testing.T, l api.LetterLetter, truths []truth) {
	t.Helper()
	var sure []api.BookLine
	for k := range l.Lines {
		var want []api.BookItem
		for _, x := range truths {
			if !slices.Contains(want, x.lines[k].Item) {
				want = append(want, x.lines[k].Item)
			}
		}
		slices.SortFunc(want, func(a, b api.BookItem) int {
			return compare(lines(api.BookLine{Item: a}), lines(api.BookLine{Item: b}))
		})
		if got, e := letter.Can(l, k); !slices.Equal(got, want) || e != errorOf(truths) {
			t.Fatalf("Can of %v, %d: %v, %d, not %v", l, k, got, e, want)
		}
		if len(truths) > 0 {
			sure = append(sure, sureOf(truths, k))
		}
	}
	if got, e := letter.Sure(l); !slices.Equal(got, sure) || e != errorOf(truths) {
		t.Fatalf("Sure of %v: %v, %d, not %v", l, got, e, sure)
	}
}

func sureOf(truths []truth, k int) api.BookLine {
	same := fields(truths[0].lines[k])
	for _, x := range truths {
		for i, n := range fields(x.lines[k]) {
			if same[i] != n {
				same[i] = -1
			}
		}
	}
	return line(same[3], same[0], same[1], same[2])
}

func checkCost(t *testing.T, l api.LetterLetter, truths []truth) {
	t.Helper()
	var want api.Span
	for i, x := range truths {
		if i == 0 {
			want = x.cents
		}
		want = span(min(want.Low, x.cents.Low), max(want.High, x.cents.High))
	}
	if got, e := letter.Cost(l); got != want || e != errorOf(truths) {
		t.Fatalf("Cost of %v: %v, %d, not %v", l, got, e, want)
	}
}

func checkIsOrder(t *testing.T, l api.LetterLetter, truths []truth, order []api.BookLine) {
	t.Helper()
	want := slices.ContainsFunc(truths, func(x truth) bool { return slices.Equal(x.lines, order) })
	if got, e := letter.IsOrder(l, order); got != want || e != api.OK {
		t.Fatalf("IsOrder of %v, %v: %v, %d, not %v", l, order, got, e, want)
	}
	if got, e := letter.When(l, order); (e == api.OK) != want || !want && (e != api.ErrNone || got != api.Span{}) {
		t.Fatalf("When of %v, %v: %v, %d", l, order, got, e)
	}
}

// neighbours is an order with something else in each field of a line.
func neighbours(rnd *rand.Rand, order []api.BookLine) [][]api.BookLine {
	var list [][]api.BookLine
	for field := range 4 {
		for _, more := range []int{-1, 1} {
			other := slices.Clone(order)
			l := &other[rnd.Intn(len(other))]
			*[]*int{&l.Item.Good, &l.Item.Size, &l.Item.Colour, &l.Many}[field] += more
			list = append(list, other)
		}
	}
	return list
}

// more makes letters in which more can be read, if they are valid still.
func more(rnd *rand.Rand, l api.LetterLetter) []api.LetterLetter {
	ln := func(m api.LetterLetter) *api.LetterLine { return &m.Lines[rnd.Intn(len(m.Lines))] }
	var list []api.LetterLetter
	for _, do := range []func(m *api.LetterLetter){
		func(m *api.LetterLetter) { d := ln(*m).Digits; d[rnd.Intn(len(d))] |= 1 << rnd.Intn(10) },
		func(m *api.LetterLetter) {
			x := ln(*m)
			x.Sizes = append(x.Sizes, 1+rnd.Intn(sample.LastSize))
			slices.Sort(x.Sizes)
		},
		func(m *api.LetterLetter) { ln(*m).Colours |= 1 << rnd.Intn(4) },
		func(m *api.LetterLetter) { ln(*m).Foot.High += rnd.Intn(9) },
		func(m *api.LetterLetter) { ln(*m).Foot.Low -= rnd.Intn(9) },
		func(m *api.LetterLetter) { ln(*m).Many.High++ },
		func(m *api.LetterLetter) { ln(*m).Many.Low-- },
		func(m *api.LetterLetter) { m.Days.High += rnd.Intn(9) },
		func(m *api.LetterLetter) { m.Days.Low -= rnd.Intn(9) },
		func(m *api.LetterLetter) { m.Money.High += rnd.Intn(99) },
		func(m *api.LetterLetter) { m.Money.Low -= rnd.Intn(9) },
	} {
		m := clone(l)
		do(&m)
		if letter.Check(m) == api.OK {
			list = append(list, m)
		}
	}
	return list
}

// P2.8: if more can be read no order is taken away, and no day.
func TestP2_8MoreCanBeRead(t *testing.T) {
	eachLetter(t, 600, func(rnd *rand.Rand, l api.LetterLetter) {
		orders, e := letter.Orders(l)
		if e != api.OK {
			return
		}
		for _, m := range more(rnd, l) {
			for _, o := range orders {
				before, _ := letter.When(l, o)
				now, e := letter.When(m, o)
				if e != api.OK || now.Low > before.Low || now.High < before.High {
					t.Fatalf("%v can be on %v by %v, but on %v, %d, by %v", o, before, l, now, e, m)
				}
			}
		}
	})
}

// isQuestion reports whether a question leaves one order.
func isQuestion(orders [][]api.BookLine, question []api.LetterAsk) bool {
	for i, one := range orders {
		for _, other := range orders[:i] {
			isSame := true
			for _, q := range question {
				isSame = isSame && fields(one[q.Line])[q.Field] == fields(other[q.Line])[q.Field]
			}
			if isSame {
				return false
			}
		}
	}
	return true
}

// shortest is the first one of all questions that leave one order, sorted by their lengths, then pair by pair.
func shortest(orders [][]api.BookLine, many int) []api.LetterAsk {
	var best []api.LetterAsk
	found := false
	for set := range 1 << (4 * many) {
		var question []api.LetterAsk
		for k := range 4 * many {
			if set>>k&1 == 1 {
				question = append(question, ask(k/4, k%4))
			}
		}
		if found && len(question) > len(best) || !isQuestion(orders, question) {
			continue
		}
		if !found || len(question) < len(best) || comparePairs(question, best) < 0 {
			best, found = question, true
		}
	}
	return best
}

func comparePairs(one, other []api.LetterAsk) int {
	return slices.CompareFunc(one, other, func(a, b api.LetterAsk) int { return 4*(a.Line-b.Line) + a.Field - b.Field })
}

// P2.9: one order is left, with a pair less two can be, and there is no question before the one that is told.
func TestP2_9TheShortestQuestion(t *testing.T) {
	lengths := map[int]int{}
	eachLetter(t, 4000, func(rnd *rand.Rand, l api.LetterLetter) {
		orders, e := letter.Orders(l)
		got, f := letter.Ask(l)
		if f != e || e != api.OK && len(got) > 0 {
			t.Fatalf("Ask of %v: %v, %d, but Orders %d", l, got, f, e)
		}
		if e != api.OK {
			return
		}
		lengths[len(got)]++
		if !isQuestion(orders, got) {
			t.Fatalf("Ask of %v: %v does not leave one of %v", l, got, orders)
		}
		for i := range got {
			if isQuestion(orders, slices.Delete(slices.Clone(got), i, i+1)) {
				t.Fatalf("Ask of %v: %v without the pair %d leaves one of %v, too", l, got, i, orders)
			}
		}
		if want := shortest(orders, len(l.Lines)); !slices.Equal(got, want) {
			t.Fatalf("Ask of %v: %v, not %v", l, got, want)
		}
	})
	for many := range 6 {
		if lengths[many] == 0 {
			t.Errorf("no question of %d pairs: %v", many, lengths)
		}
	}
}

// P2.10: of one order all is sure, and nothing is asked; if nothing is asked there is one.
func TestP2_10OneOrder(t *testing.T) {
	eachLetter(t, 1500, func(rnd *rand.Rand, l api.LetterLetter) {
		orders, e := letter.Orders(l)
		if e != api.OK {
			return
		}
		question, e := letter.Ask(l)
		sure, f := letter.Sure(l)
		if e != api.OK || f != api.OK || (len(question) == 0) != (len(orders) == 1) {
			t.Fatalf("of %v: Ask %v, %d, Sure %v, %d, of the orders %v", l, question, e, sure, f, orders)
		}
		if len(orders) == 1 && !slices.Equal(sure, orders[0]) {
			t.Fatalf("Sure of %v: %v, not %v", l, sure, orders[0])
		}
	})
}

// P1: whatever the arguments are, each function returns, and with an error all else is zero.
func TestP1_AllArguments(t *testing.T) {
	extremes := []int{math.MinInt, math.MinInt + 1, -1, 0, 1, math.MaxInt - 1, math.MaxInt}
	letters := []api.LetterLetter{{}, example(), two()}
	for _, n := range extremes {
		for _, m := range extremes {
			l := clone(example())
			l.Lines[0] = api.LetterLine{Digits: []int{n, m}, Sizes: []int{m, n}, Foot: span(n, m), Colours: n, Many: span(m, n)}
			letters = append(letters, l, with(days(n, m)), with(money(n, m)), with(foot(n, m)), with(sizes(n, m)), with(digits(n, m)), with(colours(n)), with(many(n, m)))
			l.Rack = api.BookRack{Goods: n, Issues: []api.BookIssue{{Days: span(n, m), Held: m, Entries: []api.BookEntry{sample.Entry(n, m, n, fit(n, m, n, m))}}}}
			letters = append(letters, l)
		}
	}
	checkZero(t, askAll(largest(), lines(line(-1, -1, -1, -1))))
	for _, l := range letters {
		checkZero(t, askAll(l, nil))
		for _, n := range extremes {
			if _, e := letter.Can(l, n); letter.Check(l) == api.OK && (e == api.ErrLetterAsk) != (n < 0 || n >= len(l.Lines)) {
				t.Errorf("Can of %v, %d: %d", l, n, e)
			}
			checkZero(t, askAll(l, lines(line(n, n, n, n))))
			checkZero(t, askAll(l, make([]api.BookLine, 5)))
		}
	}
}

// checkZero checks that with an error each other result is zero, and that a wrong letter has its error everywhere.
func checkZero(t *testing.T, a answers) {
	t.Helper()
	isZero := [10]bool{true, !a.is, a.many == 0, len(a.orders) == 0, len(a.can[0]) == 0, len(a.can[1]) == 0, len(a.sure) == 0, len(a.ask) == 0, a.spans[0] == api.Span{}, a.spans[1] == api.Span{}}
	for i, e := range a.errnos {
		if e != api.OK && !isZero[i] || a.errnos[0] != api.OK && e != api.ErrLetter {
			t.Errorf("with the errors %v: %v", a.errnos, a)
		}
	}
}

// P2: the same arguments have the same result, whatever was called before.
func TestP2_SameArgumentsSameResult(t *testing.T) {
	want := askAll(two(), usual())
	eachLetter(t, 100, func(rnd *rand.Rand, l api.LetterLetter) {
		order := lines(line(1, rnd.Intn(3), 1+rnd.Intn(6), 0))
		one, other := askAll(l, order), askAll(clone(l), order)
		checkZero(t, one)
		if !reflect.DeepEqual(one, other) {
			t.Fatalf("of %v, %v: %v, then %v", l, order, one, other)
		}
		if got := askAll(two(), usual()); !reflect.DeepEqual(got, want) {
			t.Fatalf("of the example after %v: %v, not %v", l, got, want)
		}
	})
}
