package clerk_test

import (
	"fmt"
	"math/rand"
	"reflect"
	"slices"
	"strconv"
	"strings"
	"testing"
	"unsafe"

	"wishbook/account"
	"wishbook/api"
	"wishbook/book"
	"wishbook/claim"
	"wishbook/clerk"
	"wishbook/sample"
)

// P11.2, P11.3, P11.10: in random seasons all lines answer and change what the tables say, read word by word.
func TestP11_2AllLines(t *testing.T) {
	met := map[string]map[api.Errno]int{}
	eachSeason(t, 150, true, func(d teller) {
		p := plain{ClerkSetup: d.s}
		for range 450 {
			line := d.line()
			answer, e := d.c.Do(line)
			if want, wantE := p.do(line); answer != want || e != wantE {
				t.Fatalf("of %v, after %q, %q: %q, %d, not %q, %d", d.s, p.journal, line, answer, e, want, wantE)
			}
			word := strings.Split(line, " ")[0]
			if met[word] == nil {
				met[word] = map[api.Errno]int{}
			}
			met[word][e]++
		}
		if h := show(d.c); !h.same(p.has) {
			t.Fatalf("of %v, after %q: %v, not %v", d.s, p.journal, h, p.has)
		}
	})
	metEnough(t, met)
}

// metEnough complains of words of which some answer, or some error, was met too seldom.
func metEnough(t *testing.T, met map[string]map[api.Errno]int) {
	t.Helper()
	for word, errors := range map[string][]api.Errno{
		"day": {7}, "add": {111, 7, 4, 6}, "order": {111, 7, 113, 4, 6}, "paid": {111, 7, 6}, "back": {111, 4, 7, 6}, "sent": {111, 7, 6}, "box": {7, 6, 112}, "stamped": {7, 6, 112},
		"price": {111, 7, 4}, "means": {7}, "list": {111}, "owes": {111}, "due": {111}, "fees": {111}, "open": {111}, "next": {111, 4}, "enough": {111, 7}, "which": {7}, "told": {7}, "returned": {}, "worth": {}, "today": {},
	} {
		for _, e := range append(errors, api.OK, api.ErrClerkLine) {
			if many := met[word][e]; many < 5 || e == api.OK && many < 150 {
				t.Errorf("%s: %d times only %d", word, e, many)
			}
		}
	}
}

// P11.6: a clerk whose file is opened is the same again, and goes on just so.
func TestP11_6TheSeason(t *testing.T) {
	opened := 0
	eachSeason(t, 100, true, func(d teller) {
		var other *clerk.Clerk
		for i := range 300 {
			if i%20 == 0 {
				file := d.c.File()
				again, at, e := clerk.Open(d.s, file)
				if again == nil || at != len(d.c.Journal()) || e != api.OK {
					t.Fatalf("Open of %v, %q: %v, %d, %d", d.s, file, again, at, e)
				}
				opened++
				other = again
			}
			line := d.line()
			answer, e := d.c.Do(line)
			if got, gotE := other.Do(line); got != answer || gotE != e {
				t.Fatalf("of %v, after %q, %q: %q, %d, but opened %q, %d", d.s, d.c.Journal(), line, answer, e, got, gotE)
			}
			if h, o := show(d.c), show(other); !h.same(o) || h.file != o.file {
				t.Fatalf("of %v, after %q: %v, but opened %v", d.s, d.c.Journal(), h, o)
			}
		}
	})
	if opened < 1000 {
		t.Errorf("%d files", opened)
	}
}

// P11.6: a line of a file that is an error by now, and its number, are told; before it the file is good.
func TestP11_6FilesWithALineMore(t *testing.T) {
	eachSeason(t, 60, true, func(d teller) {
		for range 150 {
			d.c.Do(d.line())
		}
		lines := d.c.Journal()
		at := d.Dice(len(lines) + 1)
		before, _, _ := clerk.Open(d.s, fileOf(lines[:at]...))
		line := strings.ReplaceAll(d.line(), "\n", "")
		_, want := before.Do(line)
		if want != api.ErrClerkLine && !plainChanges(line) {
			want = api.ErrClerkLine
		}
		c, got, e := clerk.Open(d.s, fileOf(append(slices.Clone(lines[:at]), line)...))
		if want == api.OK && (c == nil || got != at+1 || e != api.OK) || want != api.OK && (c != nil || got != at || e != want) {
			t.Fatalf("of %v, %q with %q: %v, %d, %d, not %d", d.s, lines[:at], line, c, got, e, want)
		}
	})
}

// P11.7: a line that is an error, or asks, changes nothing, one that changes something is one more of the journal; days never go back.
func TestP11_7NothingChanges(t *testing.T) {
	var errors, asked, done int
	eachSeason(t, 100, true, func(d teller) {
		h := show(d.c)
		for range 300 {
			line := d.line()
			answer, e := d.c.Do(line)
			now := show(d.c)
			switch {
			case e != api.OK:
				errors++
				if answer != "" || !now.same(h) {
					t.Fatalf("of %v, after %q, the error %q: %q, %v", d.s, h.journal, line, answer, now)
				}
			case !plainChanges(line):
				asked++
				if answer == "" || !now.same(h) {
					t.Fatalf("of %v, after %q, %q: %q, %v", d.s, h.journal, line, answer, now)
				}
			default:
				done++
				if answer == "" || now.day < h.day || !slices.Equal(now.journal, append(slices.Clone(h.journal), line)) || now.file != h.file+line+"\n" {
					t.Fatalf("of %v, after %q, %q: %q, %v", d.s, h.journal, line, answer, now)
				}
			}
			h = now
		}
	})
	if errors < 1000 || asked < 1000 || done < 1000 {
		t.Errorf("too few of some kind: %d, %d, %d", errors, asked, done)
	}
}

// accountOf is the account of a customer, as the clerk shows it.
func accountOf(s api.ClerkSetup, c *clerk.Clerk, who int) api.AccountFile {
	return api.AccountFile{Rack: s.Rack, Grace: s.Grace, Fee: s.Fee, Events: c.Events(who)}
}

func deskOf(s api.ClerkSetup, c *clerk.Clerk) api.ClaimDesk {
	return api.ClaimDesk{Days: s.Days, Wear: s.Wear, Strange: s.Strange, Parcels: c.Parcels(), Boxes: c.Boxes()}
}

// number returns the number that a token of an answer is.
func number(t *testing.T, answer string, i int) int {
	t.Helper()
	tokens := strings.Split(answer, " ")
	n, err := strconv.Atoi(tokens[i])
	if err != nil {
		t.Fatalf("%q: %v", answer, err)
	}
	return n
}

// P11.8: accounts are valid, customers owe what they tell, and an order costs what its list did; all orders have different numbers, from 1 on.
func TestP11_8ToTheCent(t *testing.T) {
	orders, returns := 0, 0
	eachSeason(t, 100, false, func(d teller) {
		written := 0
		for range 400 {
			line := d.line()
			tokens := strings.Split(line, " ")
			var list string
			if tokens[0] == "order" {
				list, _ = d.c.Do("list " + tokens[1])
			}
			answer, e := d.c.Do(line)
			if e != api.OK {
				continue
			}
			switch tokens[0] {
			case "order":
				written++
				who := slices.Index(d.s.Customers, tokens[1])
				costs, e := account.Cost(accountOf(d.s, d.c, who), written)
				if number(t, answer, 0) != written || number(t, answer, 1) != number(t, list, 1) || costs != number(t, list, 1) || e != api.OK {
					t.Fatalf("of %v, after %q: %q, %d, %d, but the list was %q", d.s, d.c.Journal(), answer, costs, e, list)
				}
			case "paid", "back":
				if owes, e := d.c.Do("owes " + tokens[1]); owes != answer || e != api.OK {
					t.Fatalf("of %v, after %q: %q, but %q, %d is owed", d.s, d.c.Journal(), answer, owes, e)
				}
			}
		}
		for who := range d.s.Customers {
			file := accountOf(d.s, d.c, who)
			if e := account.Check(file); e != api.OK {
				t.Fatalf("of %v, after %q: the account %v is none", d.s, d.c.Journal(), file)
			}
			owes, _ := account.Owes(file, d.c.Day())
			tell(t, d.c, ok("owes "+d.s.Customers[who], text(owes)))
			for _, e := range file.Events {
				if e.Kind == api.AccountReturn {
					returns++
				}
			}
		}
		orders += written
	})
	if orders < 300 || returns < 200 {
		t.Errorf("%d orders, %d returns", orders, returns)
	}
}

// P11.9: what was seen can always be true, and each box is told as the layer of claims tells it.
func TestP11_9TheBoxes(t *testing.T) {
	var told [3]int
	eachSeason(t, 200, false, func(d teller) {
		for range 150 {
			line := d.line()
			answer, e := d.c.Do(line)
			desk := deskOf(d.s, d.c)
			if _, e := claim.Truth(desk); e != api.OK {
				t.Fatalf("of %v, after %q: %v cannot be true", d.s, d.c.Journal(), desk)
			}
			isBox := strings.HasPrefix(line, "box ") || strings.HasPrefix(line, "stamped ")
			for b := range desk.Boxes {
				want, _ := claim.Told(desk, b)
				tell(t, d.c, ok("told "+text(b), text(want)))
				if b == len(desk.Boxes)-1 && isBox && e == api.OK {
					told[want]++
					if answer != text(want) {
						t.Fatalf("of %v, after %q: %q, not %d", d.s, d.c.Journal(), answer, want)
					}
				}
			}
		}
	})
	if slices.Min(told[:]) < 30 {
		t.Errorf("boxes that are strange, ours and open: %v", told)
	}
}

// P11.10: what lines that ask answer is what the layers below return of what the clerk has.
func TestP11_10WhatTheyReturn(t *testing.T) {
	eachSeason(t, 150, false, func(d teller) {
		for range 200 {
			d.c.Do(d.line())
		}
		day, desk := d.c.Day(), deskOf(d.s, d.c)
		for who, name := range d.s.Customers {
			file, list := accountOf(d.s, d.c, who), d.c.List(who)
			costs := "-"
			if sum, e := book.Sum(d.s.Rack, day, list); e == api.OK {
				costs = text(sum)
			}
			owes, _ := account.Owes(file, day)
			due, _ := account.Due(file, day)
			fees, _ := account.Fees(file, day)
			until := day + d.Dice(200)
			least, _ := account.Enough(file, day, until)
			tell(t, d.c, ok("list "+name, text(len(list))+" "+costs), ok("owes "+name, text(owes)), ok("due "+name, text(due)), ok("fees "+name, text(fees)), ok(fmt.Sprint("enough ", name, " ", until), text(least)))
			var all []int
			opens, _ := account.Open(file, day)
			for _, o := range opens {
				all = append(all, o.Order, o.Part, o.Due, o.Cents)
			}
			tell(t, d.c, ok("open "+name, text(all...)))
			if next, cents, e := account.Next(file, day); e == api.OK {
				tell(t, d.c, ok("next "+name, text(next, cents)))
			} else {
				tell(t, d.c, bad("next "+name, e))
			}
		}
		for b := range desk.Boxes {
			which, _ := claim.Which(desk, b)
			tell(t, d.c, ok("which "+text(b), text(which...)))
		}
		surely, perhaps, _ := claim.Back(desk)
		worth, _ := claim.Worth(desk)
		tell(t, d.c, ok("returned", text(surely...)+" / "+text(perhaps...)), ok("worth", text(worth.Low, worth.High)), ok("today", text(day)))
		for n := 1; n < 15; n++ {
			var names []string
			meant, _ := book.Means(d.s.Rack, span(day, day), n)
			for _, m := range meant {
				names = append(names, d.s.Goods[m.Good])
			}
			if len(names) == 0 {
				names = []string{"-"}
			}
			tell(t, d.c, ok("means "+text(n), strings.Join(names, " ")))
		}
		for good, name := range d.s.Goods {
			for size := 1; size <= sample.LastSize; size++ {
				price, e := book.Price(d.s.Rack, day, sample.Item(good, size, 0))
				line := fmt.Sprint("price ", name, " ", size, " 0")
				if e == api.OK {
					tell(t, d.c, ok(line, text(price)))
				} else {
					tell(t, d.c, bad(line, e))
				}
			}
		}
	})
}

// P11.5: setups are only read: what is in them, and what lies behind their lists, stays as it was.
func TestP11_5ArgumentsAreOnlyRead(t *testing.T) {
	whole := func(s api.ClerkSetup) api.ClerkSetup {
		s.Goods, s.Customers, s.Rack.Issues = s.Goods[:cap(s.Goods)], s.Customers[:cap(s.Customers)], s.Rack.Issues[:cap(s.Rack.Issues)]
		return s
	}
	for _, s := range []api.ClerkSetup{example(), largest(), changed(goods("boot", "lamp", "boot")), changed(customers("bob", "ann"))} {
		given, want := clone(s), clone(s)
		clerk.Check(given)
		if c, e := clerk.New(given); e == api.OK {
			tell(t, c, ok("day 270", "270"))
			c.Do("add ann boot 40 0 1")
			c.Do("order ann 1")
		}
		clerk.Open(given, fileOf(journal()...))
		if !reflect.DeepEqual(whole(given), whole(want)) {
			t.Errorf("%v, not %v", whole(given), whole(want))
		}
	}
}

// spoil changes all that a setup has.
func spoil(s api.ClerkSetup) {
	for i := range s.Rack.Issues {
		b := &s.Rack.Issues[i]
		for k := range b.Entries {
			for j := range b.Entries[k].Sizes {
				b.Entries[k].Sizes[j] = api.BookFit{}
			}
			b.Entries[k] = api.BookEntry{}
		}
		*b = api.BookIssue{}
	}
	clear(s.Goods)
	clear(s.Customers)
}

// P11.5: a setup is copied, with all that it has.
func TestP11_5SetupsAreCopied(t *testing.T) {
	s := clone(example())
	c := begin(t, s)
	spoil(s)
	tell(t, c, season()...)
	s = clone(example())
	c, _, _ = clerk.Open(s, fileOf(journal()...))
	spoil(s)
	tell(t, c, ok("price boot 40 0", "980"), ok("owes ann", "6050"), ok("fees bob", "1"), ok("returned", "1 / 0"))
}

// P11.5: lines and files are not retained: whose bytes are used again afterwards has changed nothing.
func TestP11_5TextsAreNotRetained(t *testing.T) {
	var bytes []byte
	again := func(text string) string {
		bytes = append(bytes[:0], text...)
		return unsafe.String(unsafe.SliceData(bytes), len(bytes))
	}
	use := func() {
		for i := range bytes {
			bytes[i] = '9'
		}
	}
	check := func(c *clerk.Clerk) {
		t.Helper()
		if !slices.Equal(c.Journal(), journal()) || c.Boxes()[0].Seal != "04?7" {
			t.Errorf("%q, %v", c.Journal(), c.Boxes())
		}
		tell(t, c, ok("which 0", "0"), ok("owes ann", "6050"))
	}
	c := begin(t, example())
	for _, line := range journal() {
		if _, e := c.Do(again(line)); e != api.OK {
			t.Fatalf("%q: %d", line, e)
		}
		use()
	}
	check(c)
	c, _, _ = clerk.Open(example(), again(fileOf(journal()...)))
	use()
	check(c)
	c = begin(t, changed(customers("ann", again("bob"))))
	use()
	tell(t, c, ok("list bob", "0 0"), bad("list 999", api.ErrClerkUnknown))
	c = begin(t, changed(goods(again("boot"), "lamp", "nail")))
	use()
	tell(t, c, ok("day 270", "270"), ok("price boot 40 0", "900"), ok("means 11", "boot"), bad("price 9999 40 0", api.ErrClerkUnknown))
}

// P11.5: results are new memory: whoever changes one, or adds to it, changes nothing of the clerk, nor of another result.
func TestP11_5ResultsAreNewMemory(t *testing.T) {
	c := begin(t, example())
	tell(t, c, season()...)
	do(t, c, "add bob boot 40 0 1", "add bob boot 40 0 2", "add ann boot 40 0 3")
	want := show(c)
	for range 2 {
		h := show(c)
		if !h.same(want) {
			t.Fatalf("%v, not %v", h, want)
		}
		for i := range h.lists {
			for k := range h.events[i] {
				clear(h.events[i][k].Lines)
				_ = append(h.events[i][k].Lines, sample.Line(1, 1, 1, 1))
			}
			clear(h.events[i])
			clear(h.lists[i])
			_, _ = append(h.lists[i], sample.Line(1, 1, 1, 1)), append(h.events[i], api.AccountEvent{})
		}
		clear(h.parcels)
		clear(h.boxes)
		clear(h.journal)
		_, _, _ = append(h.parcels, api.ClaimParcel{}), append(h.boxes, api.ClaimBox{}), append(h.journal, "x")
	}
	h := show(c)
	tell(t, c, ok("order bob 1", "3 2940"), ok("order ann 2", "4 2940"), ok("back bob 3 0 1", "2965"), ok("sent ann 1 2 3", "2"), ok("day 320", "320"), ok("box 1 1 0002", "2"))
	if !h.same(want) {
		t.Errorf("results have changed: %v, not %v", h, want)
	}
}

// P1: a setup with any numbers, a line of any bytes.
func TestP1_AllArguments(t *testing.T) {
	rnd := rand.New(rand.NewSource(1))
	for range 3000 {
		s := clone(example())
		for range 1 + rnd.Intn(3) {
			n := extremes[rnd.Intn(len(extremes))]
			numbers := []*int{&s.Grace, &s.Fee, &s.Days.Low, &s.Days.High, &s.Wear, &s.Strange, &s.Rack.Goods, &s.Rack.Issues[0].Held, &s.Rack.Issues[0].Days.Low, &s.Rack.Issues[1].Days.High, &s.Rack.Issues[1].Entries[0].Good, &s.Rack.Issues[0].Entries[1].Sizes[0].Price}
			*numbers[rnd.Intn(len(numbers))] = n
		}
		want := clerk.Check(s)
		c, e := clerk.New(s)
		if want != api.OK && want != api.ErrClerk || e != want || (c != nil) != (e == api.OK) {
			t.Fatalf("of %v: %d, %v, %d", s, want, c, e)
		}
		if c, at, e := clerk.Open(s, "day 1\n"); e != want || (c != nil) != (e == api.OK) || (at == 1) != (e == api.OK) {
			t.Fatalf("Open of %v: %v, %d, %d", s, c, at, e)
		}
	}
	c := begin(t, example())
	tell(t, c, season()...)
	signs := []byte(" \n-?0123456789abc\x00\xff/")
	for range 20000 {
		bytes := []byte(c.Journal()[rnd.Intn(len(c.Journal()))])
		for range 1 + rnd.Intn(4) {
			bytes[rnd.Intn(len(bytes))] = signs[rnd.Intn(len(signs))]
		}
		if line := string(bytes); !plainHasForm(line) {
			tell(t, c, bad(line, api.ErrClerkLine))
		}
		if c, at, e := clerk.Open(example(), string(bytes)+"\n"); (c != nil) != (e == api.OK) || at > 3 {
			t.Fatalf("Open of %q: %v, %d, %d", bytes, c, at, e)
		}
	}
}

// P1: setups, lines and files that are much too long.
func TestP1_LongArguments(t *testing.T) {
	long := slices.Repeat([]string{"a"}, 1<<20)
	for _, x := range []change{{"goods", goods(long...)}, {"customers", customers(long...)}} {
		if e := clerk.Check(changed(x.do)); e != api.ErrClerk {
			t.Errorf("many %s: %d", x.name, e)
		}
	}
	c := begin(t, example())
	for _, text := range []string{strings.Repeat(" ", 1<<24), strings.Repeat("1", 1<<24), strings.Repeat("day 1\n", 1<<22), "list " + strings.Repeat("a", 1<<24)} {
		tell(t, c, bad(text, api.ErrClerkLine))
		if c, at, e := clerk.Open(example(), text); c != nil || at != 0 || e != api.ErrLong {
			t.Errorf("Open of %d bytes: %v, %d, %d", len(text), c, at, e)
		}
	}
}

// P1: a setup, and a season, of the greatest numbers that there can be.
func TestP1_Largest(t *testing.T) {
	s := largest()
	c := begin(t, s)
	tell(t, c, ok("day 3000", "3000"))
	ann, boot := s.Customers[3], s.Goods[23]
	cost := 20 * (1000 - 1000/12) * (api.BookPrice - 3)
	for range 11 {
		do(t, c, many(20, fmt.Sprintf("add %s %s 99 3 1000", ann, boot))...)
		tell(t, c, ok("list "+ann, text(20, cost)))
		if answer, e := c.Do("order " + ann + " 12"); number(t, answer, 1) != cost || e != api.OK {
			t.Fatalf("order: %q, %d", answer, e)
		}
	}
	do(t, c, many(8, fmt.Sprintf("paid %s 1000000", ann))...)
	tell(t, c, ok("owes "+ann, text(11*cost-8000000)), ok("enough "+ann+" 4000", text(11*cost-8000000)), ok("day 4000", "4000"), ok("fees "+ann, "132"), ok("owes "+ann, text(11*cost-8000000+132*10000)))
	do(t, c, many(8, "sent "+ann+" 50000 9999 100000")...)
	do(t, c, many(6, "stamped 45000 50000 ????")...)
	tell(t, c, ok("worth", "600000 600000"), ok("which 5", "0 1 2 3 4 5 6 7"), ok("returned", "- / 0 1 2 3 4 5 6 7"))
	again, at, e := clerk.Open(s, c.File())
	if again == nil || at != len(c.Journal()) || e != api.OK || !show(again).same(show(c)) {
		t.Errorf("Open: %v, %d, %d", again, at, e)
	}
}

// P2: clerks know nothing of each other; the same lines always have the same answers.
func TestP2_SameArgumentsSameResult(t *testing.T) {
	one, other := begin(t, example()), begin(t, example())
	for _, s := range season() {
		tell(t, one, s)
		if h := show(other); !h.same(has{}) {
			t.Fatalf("after %q the other clerk has %v", s.line, h)
		}
	}
	tell(t, other, season()...)
	if !show(one).same(show(other)) {
		t.Errorf("%v, but %v", show(one), show(other))
	}
	for range 3 {
		for _, s := range season() {
			if a, e := one.Do(s.line); s.e == api.OK && !plainChanges(s.line) {
				b, f := one.Do(s.line)
				if a != b || e != f {
					t.Errorf("%q: %q, %d, then %q, %d", s.line, a, e, b, f)
				}
			}
		}
	}
}
