package shelf_test

import (
	"math/rand"
	"reflect"
	"slices"
	"testing"

	"wishbook/api"
	"wishbook/sample"
	"wishbook/shelf"
	"wishbook/spans"
)

func usual() question { return question{shelf: 0, day: 1, pieces: 9, delivery: 0, move: 1} }

// P4.7: arguments are as they were, also behind their ends.
func TestP4_7ArgumentsAreOnlyRead(t *testing.T) {
	for _, make := range []func() api.ShelfBook{
		example, largest,
		func() api.ShelfBook { return withCount(example(), count(1, 1, 4, 0), count(3, 0, 30, 1)) },
	} {
		b, before := clone(make()), clone(make())
		askAll(b, usual())
		if !reflect.DeepEqual(b, before) {
			t.Errorf("an argument was changed: %v", b)
		}
		shelves, moves, deliveries, counts := len(b.Shelves), len(b.Moves), len(b.Deliveries), len(b.Counts)
		if b.Shelves[:shelves+1][shelves] != room(-1, -2, -1) || b.Moves[:moves+1][moves] != slip(-1, -1, -1, -2) ||
			b.Deliveries[:deliveries+1][deliveries] != delivery(-1, -1, -2, -1, -2) || b.Counts[:counts+1][counts] != count(-1, -1, -1, -1) {
			t.Errorf("something was written behind a list of %v", b)
		}
	}
}

// lists are all lists of answers.
func (a answers) lists() [][]int { return [][]int{a.due, a.past, a.wrong, a.idle} }

// P4.7: arguments are not retained, and results are new memory, of which no two lists share any.
func TestP4_7ResultsAreNewMemory(t *testing.T) {
	for _, b := range []api.ShelfBook{example(), withCount(example(), count(1, 1, 4, 0), count(3, 0, 30, 1))} {
		want, got := askAll(b, usual()), askAll(b, usual())
		for k, numbers := range got.lists() {
			for i := range numbers[:cap(numbers)] {
				numbers[:cap(numbers)][i] += 100 * (k + 1)
			}
		}
		for k, numbers := range got.lists() {
			for i, n := range numbers {
				if n != want.lists()[k][i]+100*(k+1) {
					t.Errorf("the list %d shares memory with another one: %v", k, got)
				}
			}
		}
		if again := askAll(b, usual()); !reflect.DeepEqual(again, want) {
			t.Errorf("after results were changed: %v, not %v", again, want)
		}
		held := askAll(b, usual())
		b.Shelves[0].Begin, b.Moves[0].By, b.Deliveries[0].Days, b.Counts[0].Read = span(11, 11), span(2, 2), span(2, 2), 19
		if !reflect.DeepEqual(held, want) {
			t.Errorf("after the arguments were changed: %v, not %v", held, want)
		}
		if reflect.DeepEqual(askAll(b, usual()), want) {
			t.Errorf("a changed book answers as before: %v", want)
		}
	}
}

// spanOf is the least and the greatest number of those that can be.
func spanOf(can []bool) api.Span {
	s := span(len(can), -1)
	for n, is := range can {
		if is {
			s = spans.Join(s, spans.One(n))
		}
	}
	return s
}

// checkEvening checks all that is told of a shelf on a day.
func (x *told) checkEvening(t *testing.T, b api.ShelfBook, s, day int) {
	t.Helper()
	want := spanOf(x.stocks[s][day][:])
	if got, e := shelf.Was(b, s, day); got != want || e != api.OK {
		t.Fatalf("Was of %v, %d, %d: %v, %d, not %v", b, s, day, got, e, want)
	}
	sure := want.Low
	for later := day; later < b.Days; later++ {
		sure = min(sure, spanOf(x.stocks[s][later][:]).Low)
	}
	if got, e := shelf.Sure(b, s, day); got != sure || e != api.OK {
		t.Fatalf("Sure of %v, %d, %d: %d, %d, not %d", b, s, day, got, e, sure)
	}
}

// checkCan checks all numbers of pieces of a shelf on a day.
func (x *told) checkCan(t *testing.T, b api.ShelfBook, s, day int) {
	t.Helper()
	for pieces, want := range x.stocks[s][day] {
		if got, e := shelf.Can(b, s, day, pieces); got != want || e != api.OK {
			t.Fatalf("Can of %v, %d, %d, %d: %v, %d, not %v", b, s, day, pieces, got, e, want)
		}
	}
}

// check checks what is told of shelves, deliveries and moves.
func (x *told) check(t *testing.T, b api.ShelfBook) {
	t.Helper()
	eachEvening(b, func(s, day int) { x.checkEvening(t, b, s, day) })
	for i := range b.Deliveries {
		var want []int
		for day, can := range x.due[i] {
			if can {
				want = append(want, day)
			}
		}
		if got, e := shelf.Due(b, i); !slices.Equal(got, want) || e != api.OK {
			t.Fatalf("Due of %v, %d: %v, %d, not %v", b, i, got, e, want)
		}
	}
	for i := range b.Moves {
		if got, e := shelf.Taken(b, i); got != x.taken[i] || e != api.OK {
			t.Fatalf("Taken of %v, %d: %v, %d, not %v", b, i, got, e, x.taken[i])
		}
	}
}

// checkFalse checks that nothing is told of a book that cannot be true.
func checkFalse(t *testing.T, b api.ShelfBook) {
	t.Helper()
	a := askAll(b, question{})
	if e := a.errnos; e.was != api.ErrShelfFalse || e.can != e.was || e.sure != e.was || e.past != e.was || e.idle != e.was || !a.areZero() {
		t.Fatalf("of the false book %v: %v", b, a)
	}
	if len(b.Deliveries) > 0 && a.errnos.due != api.ErrShelfFalse || len(b.Moves) > 0 && a.errnos.taken != api.ErrShelfFalse {
		t.Fatalf("of the false book %v: %v", b, a)
	}
}

// P4.8, P4.2, P4.3: what is told is just what all truths have.
func TestP4_8AllTruths(t *testing.T) {
	are := map[bool]int{}
	small.eachBook(t, 500, func(d sample.Dice, b api.ShelfBook) {
		want := plain(b)
		if are[want.isTrue]++; want.isTrue {
			want.check(t, b)
			eachEvening(b, func(s, day int) { want.checkCan(t, b, s, day) })
		} else {
			checkFalse(t, b)
		}
	})
	if are[true] < 100 || are[false] < 100 {
		t.Errorf("books that can be true, and that cannot: %v", are)
	}
}

// P4.8: the same of books of any size; those that cannot be true are asked again without the counts that must be false.
func TestP4_8LargeBooks(t *testing.T) {
	are := map[bool]int{}
	great.eachBook(t, 300, func(d sample.Dice, b api.ShelfBook) {
		x := large(b)
		are[x.isTrue]++
		if !x.isTrue {
			checkFalse(t, b)
			wrong, e := shelf.Wrong(b)
			b = withoutCounts(b, wrong...)
			if x = large(b); x.isTrue != (e == api.OK) {
				t.Fatalf("Wrong of %v: %v, %d", b, wrong, e)
			}
		}
		if x.isTrue {
			x.check(t, b)
			x.checkCan(t, b, d(len(b.Shelves)), d(b.Days))
		}
	})
	if are[true] < 20 || are[false] < 20 {
		t.Errorf("books that can be true, and that cannot: %v", are)
	}
}

// P4.8: whatever truly happens lies within what is told.
func TestP4_8WhateverHappens(t *testing.T) {
	rnd := rand.New(rand.NewSource(8))
	for range 300 {
		b, truth := great.someBook(rnd.Intn)
		for i, m := range b.Moves {
			b.Moves[i].By = spans.Join(m.By, spans.One(truth.moved[i]))
		}
		b = withoutCounts(b, truth.wrong...)
		eachEvening(b, func(s, day int) {
			now := truth.stocks[s][day]
			if was, e := shelf.Was(b, s, day); e != api.OK || !spans.Has(was, now) {
				t.Fatalf("Was of %v, %d, %d: %v, %d, but truly %v", b, s, day, was, e, truth)
			}
			sure, e := shelf.Sure(b, s, day)
			if least := slices.Min(truth.stocks[s][day:b.Days]); e != api.OK || sure > least {
				t.Fatalf("Sure of %v, %d, %d: %v, %d, but truly %v", b, s, day, sure, e, truth)
			}
		})
		for i, day := range truth.days {
			if due, e := shelf.Due(b, i); e != api.OK || !slices.Contains(due, day) {
				t.Fatalf("Due of %v, %d: %v, %d, but truly %v", b, i, due, e, truth)
			}
		}
		for i, many := range truth.moved {
			if taken, e := shelf.Taken(b, i); e != api.OK || !spans.Has(taken, many) {
				t.Fatalf("Taken of %v, %d: %v, %d, but truly %v", b, i, taken, e, truth)
			}
		}
	}
}

// P4.4: for all that can be there a past is told that a truth has, and none for what cannot.
func TestP4_4PastsOfTruths(t *testing.T) {
	small.eachBook(t, 200, func(d sample.Dice, b api.ShelfBook) {
		want := plain(b)
		if !want.isTrue {
			return
		}
		eachEvening(b, func(s, day int) {
			for pieces, can := range want.stocks[s][day] {
				got, e := shelf.Past(b, s, day, pieces)
				if !can {
					if len(got) > 0 || e != api.ErrNone {
						t.Fatalf("Past of %v, %d, %d, %d: %v, %d", b, s, day, pieces, got, e)
					}
					continue
				}
				var past row
				if copy(past[:], got); e != api.OK || len(got) != b.Days || got[day] != pieces || !want.pasts[s][past] {
					t.Fatalf("Past of %v, %d, %d, %d: %v, %d, but %v", b, s, day, pieces, got, e, want.pasts[s])
				}
			}
		})
	})
}

// P4.4: a past of a large book goes with all that is known of it.
func TestP4_4LargePasts(t *testing.T) {
	great.eachBook(t, 150, func(d sample.Dice, b api.ShelfBook) {
		wrong, e := shelf.Wrong(b)
		if e != api.OK {
			return
		}
		b = withoutCounts(b, wrong...)
		s, day := d(len(b.Shelves)), d(b.Days)
		for _, pieces := range endsOf(shelf.Was(b, s, day)) {
			got, e := shelf.Past(b, s, day, pieces)
			if e != api.OK || len(got) != b.Days || got[day] != pieces {
				t.Fatalf("Past of %v, %d, %d, %d: %v, %d", b, s, day, pieces, got, e)
			}
			known := b
			for day, pieces := range got {
				known = withCount(known, count(day, s, pieces, 0))
			}
			if x := large(known); !x.isTrue {
				t.Fatalf("Past of %v, %d, %d, %d: %v, which is in no truth", b, s, day, pieces, got)
			}
		}
	})
}

func endsOf(s api.Span, _ api.Errno) []int { return []int{s.Low, s.High} }

// P4.5, P4.10: the counts that are told must be false: without them the book can be true, with fewer it cannot, and no other list of as many is before theirs.
func TestP4_10TheFewestCounts(t *testing.T) {
	sizes := map[int]int{}
	z := small
	z.counts, z.moves, z.guess = 6, 3, 2
	z.eachBook(t, 1500, func(d sample.Dice, b api.ShelfBook) {
		want := plain(b)
		got, e := shelf.Wrong(b)
		if !want.isEver {
			sizes[-1]++
			if len(got) > 0 || e != api.ErrNone {
				t.Fatalf("Wrong of %v: %v, %d", b, got, e)
			}
			return
		}
		sizes[len(want.wrong)]++
		if !slices.Equal(got, want.wrong) || e != api.OK {
			t.Fatalf("Wrong of %v: %v, %d, not %v", b, got, e, want.wrong)
		}
		if _, e := shelf.Was(withoutCounts(b, got...), 0, 0); e != api.OK {
			t.Fatalf("Wrong of %v: %v, but without: %d", b, got, e)
		}
		for i := range got {
			fewer := slices.Delete(slices.Clone(got), i, i+1)
			if _, e := shelf.Was(withoutCounts(b, fewer...), 0, 0); e != api.ErrShelfFalse {
				t.Fatalf("Wrong of %v: %v, but without %v: %d", b, got, fewer, e)
			}
		}
	})
	for many := -1; many <= 3; many++ {
		if sizes[many] < 10 {
			t.Errorf("no book with %d counts that must be false: %v", many, sizes)
		}
	}
}

// P4.6: the counts are idle without each of which the same can be.
func TestP4_6SameStocks(t *testing.T) {
	are := map[bool]int{}
	small.eachBook(t, 1500, func(d sample.Dice, b api.ShelfBook) {
		want := plain(b)
		if !want.isTrue {
			return
		}
		got, e := shelf.Idle(b)
		if !slices.Equal(got, want.idle) || e != api.OK {
			t.Fatalf("Idle of %v: %v, %d, not %v", b, got, e, want.idle)
		}
		are[true] += len(got)
		are[false] += len(b.Counts) - len(got)
	})
	if are[true] < 50 || are[false] < 50 {
		t.Errorf("counts that are idle, and that are not: %v", are)
	}
}

// view is all that is told of a book that can be true, of as many pieces as have room.
type view struct {
	can   stocks
	was   [api.ShelfShelves][api.ShelfDays]api.Span
	sure  [api.ShelfShelves]row
	due   [api.ShelfDeliveries][api.ShelfDays]bool
	taken [api.ShelfMoves]api.Span
}

// look returns all that is told of a book; false, if it cannot be true.
func look(t *testing.T, b api.ShelfBook) (view, bool) {
	t.Helper()
	var v view
	if _, e := shelf.Was(b, 0, 0); e != api.OK {
		if e != api.ErrShelfFalse {
			t.Fatalf("Was of %v: %d", b, e)
		}
		return view{}, false
	}
	eachEvening(b, func(s, day int) {
		for pieces := range b.Shelves[s].Room + 1 {
			v.can[s][day][pieces], _ = shelf.Can(b, s, day, pieces)
		}
		v.was[s][day], _ = shelf.Was(b, s, day)
		v.sure[s][day], _ = shelf.Sure(b, s, day)
	})
	for i := range b.Deliveries {
		days, _ := shelf.Due(b, i)
		for _, day := range days {
			v.due[i][day] = true
		}
	}
	for i := range b.Moves {
		v.taken[i], _ = shelf.Taken(b, i)
	}
	return v, true
}

// covers reports whether all that another view tells lies within this one.
func (v view) covers(other view, b api.ShelfBook) bool {
	ok := true
	eachEvening(b, func(s, day int) {
		for pieces, can := range other.can[s][day] {
			ok = ok && (v.can[s][day][pieces] || !can)
		}
		ok = ok && spans.Covers(v.was[s][day], other.was[s][day]) && v.sure[s][day] <= other.sure[s][day]
	})
	for i := range b.Deliveries {
		for day, can := range other.due[i] {
			ok = ok && (v.due[i][day] || !can)
		}
	}
	for i := range b.Moves {
		ok = ok && spans.Covers(v.taken[i], other.taken[i])
	}
	return ok
}

// P4.9: one count more never widens anything, and tells nothing of other shelves.
func TestP4_9OneCountMore(t *testing.T) {
	told := map[bool]int{}
	middle.eachBook(t, 150, func(d sample.Dice, b api.ShelfBook) {
		before, ok := look(t, b)
		if !ok {
			return
		}
		c := count(d(b.Days), d(len(b.Shelves)), 0, d(3))
		c.Read = before.was[c.Shelf][c.Day].Low + d(5)
		more := withCount(b, c)
		after, ok := look(t, more)
		if told[ok]++; !ok {
			return
		}
		if !before.covers(after, b) {
			t.Fatalf("one count more, %v, widens what is told of %v", c, b)
		}
		for s := range b.Shelves {
			if s != c.Shelf && after.can[s] != before.can[s] {
				t.Fatalf("the count %v tells something of the shelf %d of %v", c, s, b)
			}
		}
		for i, delivery := range b.Deliveries {
			if delivery.Shelf != c.Shelf && after.due[i] != before.due[i] {
				t.Fatalf("the count %v tells something of the delivery %d of %v", c, i, b)
			}
		}
		for i, m := range b.Moves {
			if m.Shelf != c.Shelf && after.taken[i] != before.taken[i] {
				t.Fatalf("the count %v tells something of the move %d of %v", c, i, b)
			}
		}
	})
	if told[true] < 50 {
		t.Errorf("one count more: %v", told)
	}
}

// P4.9: the order of counts changes nothing; as many must be false, and the same ones are idle.
func TestP4_9OrderOfCounts(t *testing.T) {
	middle.eachBook(t, 150, func(d sample.Dice, b api.ShelfBook) {
		other, order := b, sample.Dice(d).Order(len(b.Counts))
		other.Counts = nil
		for _, i := range order {
			other.Counts = append(other.Counts, b.Counts[i])
		}
		before, ok := look(t, b)
		if after, isTrue := look(t, other); after != before || isTrue != ok {
			t.Fatalf("the counts of %v in the order %v: %v, not %v", b, order, after, before)
		}
		one, e := shelf.Wrong(b)
		if wrong, f := shelf.Wrong(other); len(wrong) != len(one) || f != e {
			t.Fatalf("the counts of %v in the order %v: Wrong %v, %d, not as many as %v, %d", b, order, wrong, f, one, e)
		}
		idle, e := shelf.Idle(b)
		list, f := shelf.Idle(other)
		for i, k := range list {
			list[i] = order[k]
		}
		slices.Sort(list)
		if !slices.Equal(list, idle) || f != e {
			t.Fatalf("the counts of %v in the order %v: Idle %v, %d, not %v, %d", b, order, list, f, idle, e)
		}
	})
}

// P4.11: what surely is there never is less on a later day, and gets no less.
func TestP4_11SureFromADayOn(t *testing.T) {
	grows := 0
	great.eachBook(t, 200, func(d sample.Dice, b api.ShelfBook) {
		for s := range b.Shelves {
			before := 0
			for day := range b.Days {
				sure, e := shelf.Sure(b, s, day)
				if e == api.ErrShelfFalse {
					return
				}
				if e != api.OK || sure < before {
					t.Fatalf("Sure of %v, %d: %d, %d on the day %d, but %d before", b, s, sure, e, day, before)
				}
				if sure > before && day > 0 {
					grows++
				}
				before = sure
				for later := day; later < b.Days; later++ {
					if was, e := shelf.Was(b, s, later); e != api.OK || was.Low < sure {
						t.Fatalf("Sure of %v, %d: %d from the day %d on, but Was %v, %d on the day %d", b, s, sure, day, was, e, later)
					}
				}
			}
		}
	})
	if grows < 20 {
		t.Errorf("only %d times more was sure later", grows)
	}
}

// wider returns a book in which some span is wider, or a count less exact, if it is valid still.
func wider(d sample.Dice, b api.ShelfBook) (api.ShelfBook, bool) {
	w := clone(b)
	if s := &w.Shelves[d(len(w.Shelves))]; d(4) == 0 {
		s.Begin = widen(d, s.Begin)
	}
	if len(w.Moves) > 0 && d(3) == 0 {
		m := &w.Moves[d(len(w.Moves))]
		m.By = widen(d, m.By)
	}
	if len(w.Deliveries) > 0 && d(2) == 0 {
		x := &w.Deliveries[d(len(w.Deliveries))]
		x.By = widen(d, x.By)
		x.Days = widen(d, x.Days)
	}
	if len(w.Counts) > 0 && d(3) == 0 {
		w.Counts[d(len(w.Counts))].Err += 1 + d(3)
	}
	return w, shelf.Check(w) == api.OK
}

func widen(d sample.Dice, s api.Span) api.Span { return span(s.Low-d(2), s.High+d(2)) }

// P4.12: with something wider nothing gets narrower, and no more counts must be false.
func TestP4_12Wider(t *testing.T) {
	changed := 0
	middle.eachBook(t, 250, func(d sample.Dice, b api.ShelfBook) {
		w, ok := wider(d, b)
		if !ok {
			return
		}
		wrong, e := shelf.Wrong(b)
		if more, f := shelf.Wrong(w); e == api.OK && (f != api.OK || len(more) > len(wrong)) {
			t.Fatalf("Wrong of %v: %v, %d, but of %v: %v, %d", b, wrong, e, w, more, f)
		}
		before, ok := look(t, b)
		if !ok {
			return
		}
		after, ok := look(t, w)
		if !ok || !after.covers(before, b) {
			t.Fatalf("%v tells less than %v", w, b)
		}
		if after != before {
			changed++
		}
	})
	if changed < 50 {
		t.Errorf("only %d books were wider", changed)
	}
}

// P4.12: without a count that is idle all is told as before; without another one it is not.
func TestP4_12WithoutIdleCounts(t *testing.T) {
	are := map[bool]int{}
	middle.eachBook(t, 200, func(d sample.Dice, b api.ShelfBook) {
		before, ok := look(t, b)
		if !ok {
			return
		}
		idle, e := shelf.Idle(b)
		if e != api.OK {
			t.Fatalf("Idle of %v: %d", b, e)
		}
		for i := range b.Counts {
			isIdle := slices.Contains(idle, i)
			are[isIdle]++
			after, ok := look(t, withoutCounts(b, i))
			if !ok || isIdle && after != before || !isIdle && after.can == before.can {
				t.Fatalf("without the count %d of %v: %v, but Idle %v", i, b, after == before, idle)
			}
		}
	})
	if are[true] < 30 || are[false] < 30 {
		t.Errorf("counts that are idle, and that are not: %v", are)
	}
}

// P2: the same arguments have the same result, whatever was called before.
func TestP2_SameArgumentsSameResult(t *testing.T) {
	want := askAll(example(), usual())
	great.eachBook(t, 100, func(d sample.Dice, b api.ShelfBook) {
		q := question{d(len(b.Shelves)), d(b.Days), d(20), d(api.ShelfDeliveries), d(api.ShelfMoves)}
		if one, other := askAll(b, q), askAll(clone(b), q); !reflect.DeepEqual(one, other) {
			t.Fatalf("of %v, %v: %v, then %v", b, q, one, other)
		}
		if got := askAll(example(), usual()); !reflect.DeepEqual(got, want) {
			t.Fatalf("of the example after %v: %v, not %v", b, got, want)
		}
	})
}
