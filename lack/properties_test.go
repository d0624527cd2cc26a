package lack_test

import (
	"reflect"
	"slices"
	"testing"

	"wishbook/api"
	"wishbook/lack"
	"wishbook/sample"
)

// shares returns what becomes of the lines of a valid book.
func shares(t *testing.T, b api.LackBook) []api.LackShare {
	t.Helper()
	all, e := lack.Shares(b)
	if e != api.OK || len(all) != len(b.Lines) {
		t.Fatalf("Shares of %v: %v, %d", b, all, e)
	}
	return all
}

// P10.1: by each day of each good as many pieces surely come as the definition says.
func TestP10_1AllDays(t *testing.T) {
	eachBook(t, 200, func(_ sample.Dice, b api.LackBook) {
		for good := range b.Stock {
			for day := range 101 {
				if got, e := lack.Surely(b, good, day); got != plainSurely(b.Deliveries, good, day) || e != api.OK {
					t.Fatalf("Surely of %v, %d by %d: %d, %d", b, good, day, got, e)
				}
			}
		}
	})
}

// P10.2, P10.3: what becomes of all lines, as the definition says, piece by piece.
func TestP10_2AllLines(t *testing.T) {
	var met api.LackShare // how many lines have pieces of each kind
	wholes := map[int]int{}
	eachBook(t, 3000, func(_ sample.Dice, b api.LackBook) {
		want, wantLeft := plainServe(b)
		if got := shares(t, b); !slices.Equal(got, want) {
			t.Fatalf("Shares of %v: %v, not %v", b, got, want)
		}
		if got, e := lack.Left(b); !slices.Equal(got, wantLeft) || e != api.OK {
			t.Fatalf("Left of %v: %v, %d, not %v", b, got, e, wantLeft)
		}
		wantListed, wantRefused := make([]int, len(b.Stock)), make([]int, len(b.Stock))
		has, lacks := map[int]bool{}, map[int]bool{}
		for i, s := range want {
			l := b.Lines[i]
			wantListed[l.Good] += s.Listed
			wantRefused[l.Good] += s.Refused
			has[l.Order] = true
			if s.Listed > 0 || s.Refused > 0 {
				lacks[l.Order] = true
			}
			met = share(met.Sent+min(s.Sent, 1), met.Instead+min(s.Instead, 1), met.Listed+min(s.Listed, 1), met.Refused+min(s.Refused, 1))
		}
		if listed, refused, e := lack.Missing(b); !slices.Equal(listed, wantListed) || !slices.Equal(refused, wantRefused) || e != api.OK {
			t.Fatalf("Missing of %v: %v, %v, %d, not %v, %v", b, listed, refused, e, wantListed, wantRefused)
		}
		var whole []int
		for order := range 10 {
			if has[order] && !lacks[order] {
				whole = append(whole, order)
			}
		}
		wholes[min(2, len(whole))]++
		if got, e := lack.Whole(b); !slices.Equal(got, whole) || e != api.OK {
			t.Fatalf("Whole of %v: %v, %d, not %v", b, got, e, whole)
		}
	})
	if min(met.Sent, met.Instead, met.Listed, met.Refused) < 500 || min(wholes[0], wholes[1], wholes[2]) < 300 {
		t.Errorf("too few of some kind: %v, %v", met, wholes)
	}
}

// checkCome compares when each line is there with what comes of giving out the pieces one by one.
func checkCome(t *testing.T, b api.LackBook, listed []int, truth []api.LackCame) {
	t.Helper()
	for i := range b.Lines {
		want := plainThere(b, b.Lines[i].Good, listed, truth)[i]
		got, e := lack.Come(b, i, truth)
		if want < 0 && (got != 0 || e != api.ErrNone) || want >= 0 && (got != want || want == 0 || e != api.OK) {
			t.Fatalf("Come of %v, %d, %v: %d, %d, not %d", b, i, truth, got, e, want)
		}
	}
}

// P10.4: when lines are there, of many books of any size.
func TestP10_4GivenOut(t *testing.T) {
	eachBook(t, 1500, func(d sample.Dice, b api.LackBook) {
		listed := listedOf(shares(t, b))
		for range 5 {
			checkCome(t, b, listed, someTruth(d, b))
		}
	})
}

// P10.4: whatever cannot have come is told, and whatever can is not.
func TestP10_4AllThatCame(t *testing.T) {
	met := map[api.Errno]int{}
	eachBook(t, 1500, func(d sample.Dice, b api.LackBook) {
		if len(b.Deliveries) == 0 {
			return
		}
		l := d(len(b.Lines))
		truth := someTruth(d, b)
		i := d(len(truth))
		truth[i].Day += d(3) - 1
		truth[i].Many += d(3) - 1
		x := b.Deliveries[i]
		want := api.ErrLackNot
		if is := truth[i].Day >= x.Days.Low && truth[i].Day <= x.Days.High && truth[i].Many >= x.By.Low && truth[i].Many <= x.By.High; is {
			want = api.OK
			if shares(t, b)[l].Listed == 0 {
				want = api.ErrNone
			}
		}
		met[want]++
		if got, e := lack.Come(b, l, truth); e != want || e != api.OK && got != 0 {
			t.Fatalf("Come of %v, %d, %v: %d, %d, not %d", b, l, truth, got, e, want)
		}
	})
	if met[api.OK] < 100 || met[api.ErrNone] < 100 || met[api.ErrLackNot] < 300 {
		t.Errorf("too few of some kind: %v", met)
	}
}

// P10.5, P10.10: whatever truly came, each line is there by its Until, and by the day that is told, which is the last one of all.
func TestP10_10InTime(t *testing.T) {
	var listedLines, sooner, truths int
	eachOf(t, 300, func(d sample.Dice) api.LackBook {
		return someBook(d, 2, api.LackLines, 3)
	}, func(_ sample.Dice, b api.LackBook) {
		listed := listedOf(shares(t, b))
		last := slices.Repeat(list(-1), len(b.Lines))
		eachTruth(b, func(truth []api.LackCame) {
			truths++
			for good := range b.Stock {
				for i, day := range plainThere(b, good, listed, truth) {
					if day >= 0 {
						last[i] = max(last[i], day)
					}
					if day == 0 || day > b.Lines[i].Until {
						t.Fatalf("of %v, %v: the line %d is there on %d", b, truth, i, day)
					}
				}
			}
			if truths%10 == 0 {
				checkCome(t, b, listed, truth)
			}
		})
		for i, want := range last {
			got, e := lack.Last(b, i)
			if want < 0 && (got != 0 || e != api.ErrNone) || want >= 0 && (got != want || e != api.OK) {
				t.Fatalf("Last of %v, %d: %d, %d, not %d", b, i, got, e, want)
			}
			if want >= 0 {
				listedLines++
			}
			if want >= 0 && want < b.Lines[i].Until {
				sooner++
			}
		}
	})
	if listedLines < 200 || sooner < 100 || truths < 10000 {
		t.Errorf("too few lines that are listed, or truths: %d, %d, %d", listedLines, sooner, truths)
	}
}

// worst is what comes if all comes as late as it can, and as few as can be.
func worst(b api.LackBook) []api.LackCame {
	var truth []api.LackCame
	for _, d := range b.Deliveries {
		truth = append(truth, api.LackCame{Day: d.Days.High, Many: d.By.Low})
	}
	return truth
}

// areInTime reports whether all lines of a good are there by their Until, however few pieces come, and however late.
func areInTime(b api.LackBook, good int, listed []int) bool {
	for i, day := range plainThere(b, good, listed, worst(b)) {
		if day == 0 || day > b.Lines[i].Until {
			return false
		}
	}
	return true
}

// P10.10: no piece more of a line could be listed: with one there is a truth in which some line, this one or one before it, is not there in time.
func TestP10_10NoPieceMore(t *testing.T) {
	tested := 0
	eachBook(t, 2000, func(_ sample.Dice, b api.LackBook) {
		all := shares(t, b)
		for i, s := range all {
			listed := listedOf(all)[:i+1]
			if !areInTime(b, b.Lines[i].Good, listed) {
				t.Fatalf("of %v: %v, and not in time", b, all)
			}
			if s.Refused == 0 {
				continue
			}
			if listed[i]++; areInTime(b, b.Lines[i].Good, listed) {
				t.Fatalf("of %v: %v, but of the line %d a piece more could be listed", b, all, i)
			}
			if s.Listed > 0 {
				tested++
			}
		}
	})
	if tested < 500 {
		t.Errorf("only %d lines that are listed for some of their pieces", tested)
	}
}

// P10.9: each piece is sent, sent of another good, listed or refused, and each piece of the stock is sent or left.
func TestP10_9EveryPieceOnce(t *testing.T) {
	eachBook(t, 2000, func(_ sample.Dice, b api.LackBook) {
		gone := make([]int, len(b.Stock))
		for i, s := range shares(t, b) {
			l := b.Lines[i]
			if min(s.Sent, s.Instead, s.Listed, s.Refused) < 0 || s.Sent+s.Instead+s.Listed+s.Refused != l.Many || s.Instead > 0 && l.Instead < 0 {
				t.Fatalf("of %v: the line %d: %v", b, i, s)
			}
			if gone[l.Good] += s.Sent; l.Instead >= 0 {
				gone[l.Instead] += s.Instead
			}
		}
		left, e := lack.Left(b)
		for good, many := range b.Stock {
			if e != api.OK || left[good] < 0 || gone[good]+left[good] != many {
				t.Fatalf("of %v: %v are sent, and left are %v, %d", b, gone, left, e)
			}
		}
	})
}

// P10.11: a line more, behind all others, changes nothing of those before.
func TestP10_11LineMore(t *testing.T) {
	tested := 0
	eachBook(t, 2000, func(d sample.Dice, b api.LackBook) {
		if len(b.Lines) == api.LackLines {
			return
		}
		more := clone(b)
		more.Lines = append(more.Lines, someLine(d, b))
		before, now := shares(t, b), shares(t, more)
		if !slices.Equal(before, now[:len(before)]) {
			t.Fatalf("Shares of %v: %v, but of %v: %v", b, before, more, now)
		}
		if now[len(before)].Listed > 0 {
			tested++
		}
	})
	if tested < 100 {
		t.Errorf("only %d lines more that are listed", tested)
	}
}

// P10.11: with more stock no line is sent less of its own good, and no more is refused of any.
func TestP10_11StockMore(t *testing.T) {
	var sent, fewer int
	eachBook(t, 3000, func(d sample.Dice, b api.LackBook) {
		more := clone(b)
		good := d(len(more.Stock))
		more.Stock[good] = min(api.LackStock, more.Stock[good]+1+d(5))
		before, now := shares(t, b), shares(t, more)
		for i, s := range before {
			if now[i].Sent < s.Sent || now[i].Refused > s.Refused {
				t.Fatalf("Shares of %v: %v, but of %v: %v", b, before, more, now)
			}
			sent += min(1, now[i].Sent-s.Sent)
			fewer += min(1, s.Refused-now[i].Refused)
		}
		_, refused, e := lack.Missing(b)
		_, nowRefused, f := lack.Missing(more)
		for good := range refused {
			if nowRefused[good] > refused[good] || e != api.OK || f != api.OK {
				t.Fatalf("Missing of %v: %v, but of %v: %v", b, refused, more, nowRefused)
			}
		}
	})
	if sent < 300 || fewer < 300 {
		t.Errorf("lines that are sent more: %d, of which less is refused: %d", sent, fewer)
	}
}

// moreComes makes books in which more comes, if they are valid still.
func moreComes(d sample.Dice, b api.LackBook) []api.LackBook {
	more := clone(b)
	more.Deliveries = append(more.Deliveries, someDelivery(d, b))
	books := []api.LackBook{more}
	if len(b.Deliveries) > 0 {
		for _, by := range []api.Span{span(0, 1+d(5)), span(1, 1+d(5))} {
			more := clone(b)
			x := &more.Deliveries[d(len(b.Deliveries))].By
			*x = span(x.Low+by.Low*by.High, x.High+by.High)
			books = append(books, more)
		}
	}
	return slices.DeleteFunc(books, func(b api.LackBook) bool { return lack.Check(b) != api.OK })
}

// P10.11: where more comes no line is listed for less.
func TestP10_11DeliveryMore(t *testing.T) {
	var same, listed int
	eachBook(t, 3000, func(d sample.Dice, b api.LackBook) {
		before := shares(t, b)
		for _, more := range moreComes(d, b) {
			now := shares(t, more)
			for i, s := range before {
				if now[i].Listed < s.Listed {
					t.Fatalf("Shares of %v: %v, but of %v: %v", b, before, more, now)
				}
				if now[i].Listed > s.Listed {
					listed++
				} else if s.Listed > 0 {
					same++
				}
			}
		}
	})
	if same < 1000 || listed < 1000 {
		t.Errorf("lines that are listed as before: %d, for more: %d", same, listed)
	}
}

// P10.6, P10.12: with a delivery that is later by no more days than told the list can be kept, with one that is later by one day more it cannot.
func TestP10_12Late(t *testing.T) {
	met := map[bool]int{}
	eachBook(t, 1500, func(_ sample.Dice, b api.LackBook) {
		listed := listedOf(shares(t, b))
		for i, x := range b.Deliveries {
			late, e := lack.Late(b, i)
			if e != api.OK || late < 0 || late > 100 {
				t.Fatalf("Late of %v, %d: %d, %d", b, i, late, e)
			}
			met[late < 100]++
			for days := range 101 {
				if is := canBeKept(later(b, i, days), x.Good, listed); is != (days <= late) {
					t.Fatalf("Late of %v, %d: %d, but later by %d: %v", b, i, late, days, is)
				}
			}
		}
	})
	if met[true] < 500 || met[false] < 500 {
		t.Errorf("deliveries that cannot be later by 100 days, and others: %v", met)
	}
}

// P10.7, P10.12: whatever is not broken is kept without the delivery, and whatever is broken is not.
func TestP10_12Broken(t *testing.T) {
	var brokenLines, kept, both int
	eachBook(t, 2000, func(_ sample.Dice, b api.LackBook) {
		listed := listedOf(shares(t, b))
		for i, x := range b.Deliveries {
			broken, e := lack.Broken(b, i)
			if e != api.OK || !slices.IsSorted(broken) {
				t.Fatalf("Broken of %v, %d: %v, %d", b, i, broken, e)
			}
			var want, left []int
			for l, n := range listed {
				is := n > 0 && b.Lines[l].Good == x.Good && !canBeKept(without(b, i), x.Good, listed[:l+1])
				if is {
					want, n = append(want, l), 0
				}
				left = append(left, n)
			}
			if !slices.Equal(broken, want) || !areInTime(without(b, i), x.Good, left) {
				t.Fatalf("Broken of %v, %d: %v, not %v", b, i, broken, want)
			}
			brokenLines += len(broken)
			many := 0 // lines of the good that are kept
			for l, n := range left {
				if n > 0 && b.Lines[l].Good == x.Good {
					many++
				}
			}
			kept += many
			if len(broken) > 0 && many > 0 {
				both++
			}
		}
	})
	if brokenLines < 500 || kept < 500 || both < 100 {
		t.Errorf("too few of some kind: %d, %d, %d", brokenLines, kept, both)
	}
}

func usual() question {
	return question{2, 28, 2, 0, sample.Roomy(came(6, 5, 20, 5, 30, 1), api.LackCame{Day: -1})}
}

// P10.8: arguments are only read, also where there is free room behind them.
func TestP10_8ArgumentsAreOnlyRead(t *testing.T) {
	for delivery := range 3 {
		for line := range 5 {
			b, q := clone(example()), usual()
			q.line, q.delivery = line, delivery
			if a := askAll(b, q); a.check != api.OK || a.errnos.late != api.OK {
				t.Fatalf("an error: %v", a)
			}
			if !reflect.DeepEqual(b, clone(example())) || !reflect.DeepEqual(q.came, usual().came) {
				t.Errorf("an argument was changed: %v, %v", b, q)
			}
			n, m, k := len(b.Stock), len(b.Lines), len(b.Deliveries)
			if b.Stock[:n+1][n] != -1 || b.Lines[:m+1][m].Good != -1 || b.Deliveries[:k+1][k].Good != -1 || q.came[:4][3].Day != -1 {
				t.Errorf("something was written behind a list: %v, %v", b, q)
			}
		}
	}
}

// P10.8: arguments are not retained, and results are new memory, each list its own.
func TestP10_8ResultsAreNewMemory(t *testing.T) {
	b, q := clone(example()), usual()
	want, got := askAll(b, q), askAll(b, q)
	if len(want.shares) == 0 || len(want.left) == 0 || len(want.listed) == 0 || len(want.refused) == 0 || len(want.whole) == 0 || len(want.broken) == 0 {
		t.Fatalf("too little is told: %v", want)
	}
	clear(got.listed[:cap(got.listed)])
	if !slices.Equal(got.refused, want.refused) {
		t.Errorf("both lists of Missing share memory: %v", got.refused)
	}
	clear(got.shares[:cap(got.shares)])
	for _, l := range [][]int{got.left, got.refused, got.whole, got.broken} {
		l = l[:cap(l)]
		for i := range l {
			l[i] = -9
		}
	}
	if again := askAll(b, q); !reflect.DeepEqual(again, want) {
		t.Errorf("after results were changed: %v, not %v", again, want)
	}
	held, before := askAll(b, q), askAll(clone(example()), usual())
	b.Stock[0], b.Lines[2].Many, b.Deliveries[0].By.Low, b.Deliveries[1].Days.High = 0, 1, 0, 30
	q.came[0].Day = 7
	if !reflect.DeepEqual(held, before) {
		t.Errorf("after the arguments were changed: %v, not %v", held, before)
	}
	if reflect.DeepEqual(askAll(b, usual()), before) {
		t.Errorf("a changed book answers as before: %v", before)
	}
}

// P1: whatever the arguments are, each function returns, and with an error all else is zero.
func TestP1_AllArguments(t *testing.T) {
	books := []api.LackBook{{}, example(), largest(), three(), soldOut(nil), soldOut([]api.LackLine{wanted(0, 1, 0)})}
	for _, n := range extremes {
		for _, m := range extremes {
			for _, do := range []func(b *api.LackBook){
				stock(n, m), stock(5, n, 0), ordered(0, line(n, 0, 3, m, -1)), ordered(1, line(0, n, m, 20, 0)), ordered(4, line(0, 0, 2, n, m)), ordered(4, line(0, n, 2, 40, m)),
				supplied(0, delivery(n, 5, 12, m, 6)), supplied(1, delivery(2, n, m, 3, 9)), supplied(2, delivery(0, 30, 35, n, m)), supplied(2, delivery(0, 30, n, 1, m)),
				func(b *api.LackBook) { *b = soldOut([]api.LackLine{line(n, m, n, m, n)}, delivery(m, n, m, n, m)) },
			} {
				books = append(books, changed(do))
			}
		}
	}
	for _, b := range books {
		for _, n := range extremes {
			for _, q := range []question{
				{n, 0, 0, 0, came(n, 5, 20, 5, 30, 1)}, {0, n, 2, 1, came(6, n, 20, 5, 30, 1)}, {n, n, n, n, nil}, {2, 9, n, 2, came(n, n)}, {1, 2, 4, n, came(6, 5, 20, 5, n, n)}, {2, 1, 3, 0, came(6, 5, 20, 5, 30, 1, n, n)},
			} {
				a := askAll(b, q)
				e := a.errnos
				if !a.areZero() || a.check != api.OK && (a.check != api.ErrLack || e.surely != a.check || e.come != a.check || e.broken != a.check) {
					t.Fatalf("of %v, %v: %v", b, q, a)
				}
			}
		}
	}
}

// P1: very long lists.
func TestP1_LongLists(t *testing.T) {
	const long = 1 << 20
	if day, e := lack.Come(example(), 2, make([]api.LackCame, long)); day != 0 || e != api.ErrLackNot {
		t.Errorf("Come of %d deliveries: %d, %d", long, day, e)
	}
	for _, b := range []api.LackBook{
		changed(stock(make([]int, long)...)),
		changed(func(b *api.LackBook) { b.Lines = slices.Repeat(b.Lines, long) }),
		changed(func(b *api.LackBook) { b.Deliveries = slices.Repeat(b.Deliveries, long) }),
	} {
		if a := askAll(b, usual()); a.check != api.ErrLack || a.errnos.last != api.ErrLack || !a.areZero() {
			t.Errorf("of a book of %d goods, %d lines and %d deliveries: %v", len(b.Stock), len(b.Lines), len(b.Deliveries), a.errnos)
		}
	}
}

// P2: the same arguments have the same result, whatever was called before.
func TestP2_SameArgumentsSameResult(t *testing.T) {
	want := askAll(example(), usual())
	eachBook(t, 500, func(d sample.Dice, b api.LackBook) {
		q := question{d(len(b.Stock) + 1), d(102), d(len(b.Lines) + 1), d(len(b.Deliveries) + 1), someTruth(d, b)}
		one, other := askAll(b, q), askAll(clone(b), q)
		if !one.areZero() || !reflect.DeepEqual(one, other) {
			t.Fatalf("of %v, %v: %v, then %v", b, q, one, other)
		}
		if got := askAll(example(), usual()); !reflect.DeepEqual(got, want) {
			t.Fatalf("of the example after %v: %v, not %v", b, got, want)
		}
	})
}
