package book_test

import (
	"math/rand"
	"reflect"
	"slices"
	"testing"

	"wishbook/api"
	"wishbook/book"
)

// answers are what all functions return of a rack, asked all kinds of things.
type answers struct {
	check  api.Errno
	meant  []api.BookMeant
	twins  []int
	prices []int
	fits   []int
	others [7]int
	errnos [10]api.Errno
}

// question is what all functions are asked.
type question struct {
	days, foot           api.Span
	issue, number, other int
	item                 api.BookItem
	lines                []api.BookLine
}

func ask(r api.BookRack, q question) answers {
	var a answers
	a.check = book.Check(r)
	a.meant, a.errnos[0] = book.Means(r, q.days, q.number)
	a.others[0], a.errnos[1] = book.Number(r, q.issue, q.number, q.other)
	a.twins, a.errnos[2] = book.Twins(r, q.days.Low)
	a.others[1], a.errnos[3] = book.Price(r, q.days.Low, q.item)
	a.prices, a.errnos[4] = book.Prices(r, q.days, q.item)
	a.others[2], a.errnos[5] = book.Last(r, q.item)
	a.others[3], a.errnos[6] = book.Sum(r, q.days.Low, q.lines)
	a.others[4], a.others[5], a.errnos[7] = book.Cheapest(r, q.days, q.lines)
	a.fits, a.errnos[8] = book.Fits(r, q.issue, q.number, q.foot)
	a.others[6], a.errnos[9] = book.Sure(r, q.issue, q.number, q.foot)
	return a
}

func usual() question {
	return question{
		days: span(270, 350), foot: span(255, 257), issue: 0, number: 12, other: 0,
		item: item(0, 40, 0), lines: []api.BookLine{line(13, 0, 40, 0), line(2, 2, 1, 2)},
	}
}

// P1.6: arguments are as they were, also behind their ends.
func TestP1_6ArgumentsAreOnlyRead(t *testing.T) {
	r := clone(example())
	for i := range r.Issues {
		slices.Reverse(r.Issues[i].Entries)
	}
	q := usual()
	q.lines = slices.Grow(slices.Clone(q.lines), 5)
	before, linesBefore := clone(r), slices.Clone(q.lines)
	ask(r, q)
	if !reflect.DeepEqual(r, before) || !slices.Equal(q.lines, linesBefore) {
		t.Errorf("an argument was changed: %v, %v", r, q.lines)
	}
	if behind := r.Issues[:len(r.Issues)+1][len(r.Issues)]; behind.Held != -1 {
		t.Errorf("a book was written behind the last one: %v", behind)
	}
	for _, b := range r.Issues {
		if behind := b.Entries[:len(b.Entries)+1][len(b.Entries)]; behind.Number != -1 {
			t.Errorf("an entry was written behind the last one: %v", behind)
		}
		for _, e := range b.Entries {
			if behind := e.Sizes[:len(e.Sizes)+1][len(e.Sizes)]; behind.Size != -1 {
				t.Errorf("a size was written behind the last one: %v", behind)
			}
		}
	}
	for _, l := range q.lines[len(q.lines):cap(q.lines)] {
		if l != (api.BookLine{}) {
			t.Errorf("a line was written behind the last one: %v", l)
		}
	}
}

// P1.6: arguments are not retained, and results are new memory.
func TestP1_6ResultsAreNewMemory(t *testing.T) {
	r := example()
	want := ask(r, usual())
	got := ask(r, usual())
	for _, list := range [][]int{got.twins, got.prices, got.fits} {
		list = list[:cap(list)]
		for i := range list {
			list[i] = -7
		}
	}
	for i := range got.meant {
		got.meant[i] = api.BookMeant{Issue: -7, Good: -7}
	}
	if again := ask(r, usual()); !reflect.DeepEqual(again, want) {
		t.Errorf("after results were changed: %v, not %v", again, want)
	}
	changed := example()
	held := ask(changed, usual())
	changed.Issues[0].Entries[0].Sizes[0].Size = 39
	changed.Issues[1].Entries[0].Number = 14
	if !reflect.DeepEqual(held, want) {
		t.Errorf("after the argument was changed: %v, not %v", held, want)
	}
	if reflect.DeepEqual(ask(changed, usual()), want) {
		t.Errorf("a changed rack answers as before: %v", want)
	}
}

// P1.7: in each book a number means at most one good, and asked back it is the first one; fewer days, fewer goods.
func TestP1_7WhatANumberMeans(t *testing.T) {
	eachRack(t, 150, func(rnd *rand.Rand, r api.BookRack) {
		days := randomSpan(rnd, 0, endOf(r))
		fewer := randomSpan(rnd, days.Low, days.High)
		for number := 1; number <= 14; number++ {
			checkMeans(t, r, days, fewer, number)
			checkNumbers(t, r, number)
		}
		for day := 0; day <= endOf(r); day++ {
			checkTwins(t, r, day)
		}
	})
}

func checkMeans(t *testing.T, r api.BookRack, days, fewer api.Span, number int) {
	t.Helper()
	more, e := book.Means(r, days, number)
	if e != api.OK {
		t.Fatalf("Means %v %d: %d", days, number, e)
	}
	for _, day := range []api.Span{days, fewer} {
		var want []api.BookMeant
		for i, b := range r.Issues {
			if e := entryOf(b, number); e != nil && b.Days.Low <= day.High && day.Low <= b.Days.High {
				want = append(want, api.BookMeant{Issue: i, Good: e.Good})
			}
		}
		got, e := book.Means(r, day, number)
		if !slices.Equal(got, want) || e != api.OK {
			t.Fatalf("Means of %v, %v %d: %v, %d, not %v", r, day, number, got, e, want)
		}
		for i, m := range got {
			if i > 0 && got[i-1].Issue >= m.Issue {
				t.Fatalf("Means of %v, %v %d: a book twice: %v", r, day, number, got)
			}
			if !slices.Contains(more, m) {
				t.Fatalf("Means of %v: %v on %v, but %v on %v", r, more, days, got, day)
			}
		}
	}
}

func checkNumbers(t *testing.T, r api.BookRack, number int) {
	t.Helper()
	for i, b := range r.Issues {
		for k, other := range r.Issues {
			want := 0
			if here := entryOf(b, number); here != nil {
				for _, e := range other.Entries {
					if e.Good == here.Good {
						want = e.Number
					}
				}
			}
			got, e := book.Number(r, i, number, k)
			if got != want || (e == api.OK) != (want > 0) || e != api.OK && e != api.ErrNone {
				t.Fatalf("Number of %v, %d %d %d: %d, %d, not %d", r, i, number, k, got, e, want)
			}
			if e != api.OK {
				continue
			}
			if back, e := book.Number(r, k, got, i); back != number || e != api.OK {
				t.Fatalf("Number of %v, %d %d %d, asked back: %d, %d", r, i, number, k, back, e)
			}
		}
	}
}

func checkTwins(t *testing.T, r api.BookRack, day int) {
	t.Helper()
	var want []int
	for number := 1; number <= 14; number++ {
		goods := map[int]bool{}
		for _, b := range r.Issues {
			if e := entryOf(b, number); e != nil && b.Days.Low <= day && day <= b.Days.High {
				goods[e.Good] = true
			}
		}
		if len(goods) > 1 {
			want = append(want, number)
		}
	}
	if got, e := book.Twins(r, day); !slices.Equal(got, want) || e != api.OK {
		t.Fatalf("Twins of %v, %d: %v, %d, not %v", r, day, got, e, want)
	}
}

// P1.8: no item costs more than a book says whose prices are held, and just what one of them says; a book more makes nothing dearer.
func TestP1_8ThePriceIsKept(t *testing.T) {
	eachRack(t, 300, func(rnd *rand.Rand, r api.BookRack) {
		it := randomItem(rnd, r)
		for day := 0; day <= lastDay+1; day++ {
			price, e := book.Price(r, day, it)
			if e != api.OK && e != api.ErrNone {
				t.Fatalf("Price of %v, %d %v: %d", r, day, it, e)
			}
			isSaid := false
			for _, b := range r.Issues {
				said := priceIn(b, it)
				if said == 0 || day < b.Days.Low || day > b.Held {
					continue
				}
				if e != api.OK || price > said {
					t.Fatalf("Price of %v, %d %v: %d, %d, but a book says %d", r, day, it, price, e, said)
				}
				isSaid = isSaid || price == said
			}
			if isSaid != (e == api.OK) {
				t.Fatalf("Price of %v, %d %v: %d, %d: no book says so", r, day, it, price, e)
			}
			if len(r.Issues) == api.BookIssues {
				continue
			}
			more := r
			more.Issues = append(slices.Clone(r.Issues), randomIssue(rnd, r.Goods))
			if now, f := book.Price(more, day, it); e == api.OK && (f != api.OK || now > price) {
				t.Fatalf("Price of %v, %d %v: %d, %d, with a book less %d", more, day, it, now, f, price)
			}
		}
	})
}

// endOf is a day behind all days of a rack.
func endOf(r api.BookRack) int {
	end := 0
	for _, b := range r.Issues {
		end = max(end, b.Days.High, b.Held)
	}
	return end + 1
}

// P1.9: the price of each day is told, and each one that is told is that of a day; behind the last day there is none.
func TestP1_9PricesOfSomeDays(t *testing.T) {
	eachRack(t, 300, func(rnd *rand.Rand, r api.BookRack) {
		it := randomItem(rnd, r)
		if r.Goods == 3 {
			it = item(0, 40, 0)
		}
		days := randomSpan(rnd, 0, endOf(r))
		var want []int
		end := -1
		for day := 0; day <= endOf(r); day++ {
			price := plainPrice(r, day, it)
			if price > 0 && days.Low <= day && day <= days.High && !slices.Contains(want, price) {
				want = append(want, price)
			}
			if price > 0 {
				end = day
			}
		}
		slices.Sort(want)
		if got, e := book.Prices(r, days, it); !slices.Equal(got, want) || e != api.OK {
			t.Fatalf("Prices of %v, %v %v: %v, %d, not %v", r, days, it, got, e, want)
		}
		got, e := book.Last(r, it)
		if e == api.OK && got != end || (e == api.OK) != (end >= 0) || e != api.OK && e != api.ErrNone {
			t.Fatalf("Last of %v, %v: %d, %d, not %d", r, it, got, e, end)
		}
	})
}

// P1.10: sums are added up; a piece more costs no less; a dozen costs as much as eleven; no day is cheaper than the cheapest.
func TestP1_10WhatLinesCost(t *testing.T) {
	eachRack(t, 300, func(rnd *rand.Rand, r api.BookRack) {
		lines := randomLines(rnd, r)
		days := randomSpan(rnd, 0, lastDay+1)
		cheapest, least := -1, -1
		for day := days.Low; day <= days.High; day++ {
			want := plainSum(r, day, lines)
			checkSum(t, r, day, lines, want)
			if want >= 0 && (cheapest < 0 || want < least) {
				cheapest, least = day, want
			}
		}
		day, sum, e := book.Cheapest(r, days, lines)
		if cheapest < 0 && (e != api.ErrNone || day != 0 || sum != 0) {
			t.Fatalf("Cheapest of %v, %v %v: %d, %d, %d", r, days, lines, day, sum, e)
		}
		if cheapest >= 0 && (e != api.OK || day != cheapest || sum != least) {
			t.Fatalf("Cheapest of %v, %v %v: %d, %d, %d, not %d, %d", r, days, lines, day, sum, e, cheapest, least)
		}
	})
	before := 0
	for many := 1; many <= api.BookMany; many++ {
		sum, e := book.Sum(example(), 270, []api.BookLine{line(many, 1, 7, 0)})
		if e != api.OK || sum < before || many%api.BookDozen == 0 && sum != before {
			t.Fatalf("Sum of %d pieces: %d, %d, of one less %d", many, sum, e, before)
		}
		before = sum
	}
}

func checkSum(t *testing.T, r api.BookRack, day int, lines []api.BookLine, want int) {
	t.Helper()
	sum, e := book.Sum(r, day, lines)
	if want < 0 {
		if sum != 0 || e != api.ErrNone {
			t.Fatalf("Sum of %v, %d %v: %d, %d", r, day, lines, sum, e)
		}
		return
	}
	if sum != want || e != api.OK {
		t.Fatalf("Sum of %v, %d %v: %d, %d, not %d", r, day, lines, sum, e, want)
	}
	added := 0
	for i := range lines {
		one, e := book.Sum(r, day, lines[i:i+1])
		if e != api.OK {
			t.Fatalf("Sum of %v, %d %v: %d", r, day, lines[i], e)
		}
		added += one
	}
	if added != sum {
		t.Fatalf("Sum of %v, %d %v: %d, but added up %d", r, day, lines, sum, added)
	}
}

// P1.11: each size that fits the true foot is told, and the sure one fits; of a foot that is known better there are no more.
func TestP1_11TheTracedFoot(t *testing.T) {
	eachRack(t, 300, func(rnd *rand.Rand, r api.BookRack) {
		for i, b := range r.Issues {
			for _, e := range b.Entries {
				foot := randomSpan(rnd, 1, lastFoot+1)
				if e.Number >= 11 {
					foot = randomSpan(rnd, 245, 275)
				}
				checkFoot(t, r, i, e, foot)
				better := randomSpan(rnd, foot.Low, foot.High)
				wide, _ := book.Fits(r, i, e.Number, foot)
				narrow, _ := book.Fits(r, i, e.Number, better)
				for _, size := range narrow {
					if !slices.Contains(wide, size) {
						t.Fatalf("Fits of %v, %d %d: %v of %v, but %v of %v", r, i, e.Number, wide, foot, narrow, better)
					}
				}
			}
		}
	})
}

func checkFoot(t *testing.T, r api.BookRack, issue int, entry api.BookEntry, foot api.Span) {
	t.Helper()
	var some []int
	sure := 0
	for _, f := range entry.Sizes {
		fits := 0
		for real := foot.Low; real <= foot.High; real++ {
			if f.Foot.Low <= real && real <= f.Foot.High {
				fits++
			}
		}
		if fits > 0 {
			some = append(some, f.Size)
		}
		if fits == foot.High-foot.Low+1 && sure == 0 {
			sure = f.Size
		}
	}
	if got, e := book.Fits(r, issue, entry.Number, foot); !slices.Equal(got, some) || e != api.OK {
		t.Fatalf("Fits of %v, %d %d %v: %v, %d, not %v", r, issue, entry.Number, foot, got, e, some)
	}
	got, e := book.Sure(r, issue, entry.Number, foot)
	if got != sure || (e == api.OK) != (sure > 0) || e != api.OK && e != api.ErrNone {
		t.Fatalf("Sure of %v, %d %d %v: %d, %d, not %d", r, issue, entry.Number, foot, got, e, sure)
	}
}

// P1: whatever the arguments are, each function returns, and with an error all else is zero.
func TestP1_AllArguments(t *testing.T) {
	racks := []api.BookRack{{}, example(), largest(), smallest()}
	for _, n := range extremes {
		racks = append(racks, api.BookRack{Goods: n, Issues: []api.BookIssue{{Days: span(n, n), Held: n, Entries: []api.BookEntry{entry(n, n, n, fit(n, n, n, n))}}}})
	}
	for _, r := range racks {
		for _, n := range extremes {
			for _, m := range extremes {
				q := question{days: span(n, m), foot: span(m, n), issue: n, number: m, other: n, item: item(n, m, n), lines: []api.BookLine{line(m, n, n, m)}}
				a := ask(r, q)
				checkZero(t, a)
				if a.check != api.OK && a.errnos != [10]api.Errno{10, 10, 10, 10, 10, 10, 10, 10, 10, 10} {
					t.Errorf("of the wrong rack %v, %v: %v", r, q, a.errnos)
				}
			}
		}
		for name, e := range errorsOf(t, r) {
			if e != api.ErrBook && e != api.ErrBookAsk {
				t.Errorf("%s of %v: %d", name, r, e)
			}
		}
	}
}

// checkZero checks that with an error each other result is zero.
func checkZero(t *testing.T, a answers) {
	t.Helper()
	lengths := [10]int{0: len(a.meant), 2: len(a.twins), 4: len(a.prices), 8: len(a.fits)}
	lengths[1], lengths[3], lengths[5], lengths[6], lengths[9] = a.others[0], a.others[1], a.others[2], a.others[3], a.others[6]
	lengths[7] = max(a.others[4], a.others[5], -a.others[4], -a.others[5])
	for i, e := range a.errnos {
		if e != api.OK && lengths[i] != 0 {
			t.Errorf("with the error %d: %v", e, a)
		}
	}
}

// P2: the same arguments have the same result, whatever was called before.
func TestP2_SameArgumentsSameResult(t *testing.T) {
	want := ask(example(), usual())
	eachRack(t, 20, func(rnd *rand.Rand, r api.BookRack) {
		q := question{days: randomSpan(rnd, 0, lastDay), foot: span(3, 9), number: 1 + rnd.Intn(lastNumber), item: randomItem(rnd, r), lines: randomLines(rnd, r)}
		one, other := ask(r, q), ask(clone(r), q)
		checkZero(t, one)
		if !reflect.DeepEqual(one, other) {
			t.Fatalf("of %v, %v: %v, then %v", r, q, one, other)
		}
		if got := ask(example(), usual()); !reflect.DeepEqual(got, want) {
			t.Fatalf("of the example after %v: %v, not %v", r, got, want)
		}
	})
}
