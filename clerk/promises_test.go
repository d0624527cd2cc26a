package clerk_test

import (
	"slices"
	"strings"
	"testing"

	"wishbook/api"
	"wishbook/clerk"
	"wishbook/sample"
)

// change makes another setup of the example.
type change struct {
	name string
	do   func(s *api.ClerkSetup)
}

func customers(list ...string) func(s *api.ClerkSetup) {
	return func(s *api.ClerkSetup) { s.Customers = list }
}

func goods(list ...string) func(s *api.ClerkSetup) {
	return func(s *api.ClerkSetup) { s.Goods = list }
}

func terms(low, high int) func(s *api.ClerkSetup) {
	return func(s *api.ClerkSetup) { s.Days = span(low, high) }
}

func wrongSetups() []change {
	return []change{
		{"nothing", func(s *api.ClerkSetup) { *s = api.ClerkSetup{} }},
		{"a wrong rack", func(s *api.ClerkSetup) { s.Rack.Issues[1].Held = 259 }},
		{"no books", func(s *api.ClerkSetup) { s.Rack.Issues = nil }},
		{"no goods", goods()},
		{"two goods", goods("boot", "lamp")},
		{"four goods", goods("boot", "lamp", "nail", "rope")},
		{"goods of one name", goods("boot", "lamp", "boot")},
		{"goods of one name beside each other", goods("boot", "nail", "nail")},
		{"no customers", customers()},
		{"five customers", customers("a", "b", "c", "d", "e")},
		{"customers of one name", customers("ann", "ann")},
		{"far customers of one name", customers("ann", "bob", "cal", "ann")},
		{"a grace of -1", func(s *api.ClerkSetup) { s.Grace = -1 }},
		{"a grace of 61", func(s *api.ClerkSetup) { s.Grace = 61 }},
		{"a fee of -1", func(s *api.ClerkSetup) { s.Fee = -1 }},
		{"a fee of 10001", func(s *api.ClerkSetup) { s.Fee = 10001 }},
		{"days from -1 on", terms(-1, 60)},
		{"days up to 401", terms(3, 401)},
		{"no days", terms(4, 3)},
		{"a wear of -1", func(s *api.ClerkSetup) { s.Wear = -1 }},
		{"a wear of 5001", func(s *api.ClerkSetup) { s.Wear = 5001 }},
		{"-1 strange boxes", func(s *api.ClerkSetup) { s.Strange = -1 }},
		{"7 strange boxes", func(s *api.ClerkSetup) { s.Strange = 7 }},
	}
}

func rightSetups() []change {
	return []change{
		{"the example", func(s *api.ClerkSetup) {}},
		{"the largest", func(s *api.ClerkSetup) { *s = largest() }},
		{"one customer", customers("ann")},
		{"four customers", customers("ann", "bob", "cal", "dan")},
		{"a customer with the name of a good", customers("lamp", "bob")},
		{"names that begin alike", customers("ann", "anna", "ann-", "ann0")},
		{"the least numbers", func(s *api.ClerkSetup) { s.Grace, s.Fee, s.Days, s.Wear, s.Strange = 0, 0, span(0, 0), 0, 0 }},
		{"the greatest numbers", func(s *api.ClerkSetup) {
			s.Grace, s.Fee, s.Days, s.Wear, s.Strange = 60, 10000, span(400, 400), 5000, 6
		}},
	}
}

var (
	rightNames = []string{"a", "z", "ab", "a-", "a--", "a0", "z9-9z", "abcdefghijklmnop", "q-0123456789rstu", "day", "eve"}
	wrongNames = []string{"", "0", "-", "0a", "-a", "A", "aB", "a b", " a", "a ", "a_b", "a.b", "a\n", "a\x00", "é", "aé", "a\xff", "`", "{", "a/", "a:", "abcdefghijklmnopq", strings.Repeat("a", 1<<20)}
)

func TestP11_1Check(t *testing.T) {
	check := func(name string, s api.ClerkSetup, want api.Errno) {
		t.Helper()
		if e := clerk.Check(s); e != want {
			t.Errorf("Check of %s: %d, not %d", name, e, want)
		}
		if c, e := clerk.New(s); (c != nil) != (want == api.OK) || e != want {
			t.Errorf("New of %s: %v, %d, not %d", name, c, e, want)
		}
		if c, at, e := clerk.Open(s, "day 1\n"); (c != nil) != (want == api.OK) || (at == 1) != (want == api.OK) || e != want {
			t.Errorf("Open of %s: %v, %d, %d, not %d", name, c, at, e, want)
		}
	}
	for _, x := range wrongSetups() {
		check(x.name, changed(x.do), api.ErrClerk)
	}
	for _, x := range rightSetups() {
		check(x.name, changed(x.do), api.OK)
	}
	for _, name := range rightNames {
		check("the good "+name, changed(goods("boot", name, "nail")), api.OK)
		check("the customer "+name, changed(customers("bob", name)), api.OK)
	}
	for _, name := range wrongNames {
		check("the good "+name, changed(goods("boot", "lamp", name)), api.ErrClerk)
		check("the customer "+name, changed(customers(name, "bob")), api.ErrClerk)
	}
}

func TestP11_1NewClerk(t *testing.T) {
	c := begin(t, example())
	if h := show(c); !h.same(has{}) {
		t.Errorf("a new clerk has %v", h)
	}
	tell(t, c, ok("today", "0"), ok("list ann", "0 0"), ok("list bob", "0 0"), ok("owes ann", "0"), ok("due ann", "0"), ok("fees bob", "0"), ok("open ann", "-"),
		bad("next ann", api.ErrNone), ok("enough ann 4000", "0"), bad("which 0", api.ErrRange), bad("told 0", api.ErrRange), ok("returned", "- / -"), ok("worth", "0 0"))
}

// P11.1: of a nil clerk, or one that neither New nor Open returned: also of a copy of one that they did.
func TestP11_1NotMade(t *testing.T) {
	one := do(t, begin(t, example()), "day 270", "add ann boot 40 0 1", "order ann 1", "add ann boot 40 0 1", "sent ann 1 1 1", "day 275", "box 1 1 -")
	of := *one
	for i, c := range []*clerk.Clerk{nil, {}, new(clerk.Clerk), &of} {
		for _, line := range []string{"today", "day 1", "list ann", "", "x", "day", strings.Repeat("x", 201)} {
			if answer, e := c.Do(line); answer != "" || e != api.ErrNil {
				t.Errorf("the clerk %d, %q: %q, %d", i, line, answer, e)
			}
		}
		if h := show(c); !h.same(has{}) {
			t.Errorf("the clerk %d has %v", i, h)
		}
	}
	tell(t, one, ok("today", "275"), ok("list ann", "1 900"), ok("owes ann", "925"))
}

// season is the lines of the chapter's examples.
func season() []said {
	return []said{
		ok("today", "0"), bad("order ann 3", api.ErrClerkEmpty), ok("day 270", "270"), bad("day 269", api.ErrRange),
		ok("price boot 40 0", "900"), ok("means 12", "lamp boot"), ok("add ann boot 40 0 13", "10800"), ok("add ann nail 1 2 2", "10900"), ok("list ann", "2 10900"),
		bad("add ann lamp 8 0 1", api.ErrNone), bad("add eve boot 40 0 1", api.ErrClerkUnknown), ok("order ann 3", "1 10900"), ok("owes ann", "10900"), ok("list ann", "0 0"),
		ok("day 280", "280"), ok("paid ann 4000", "6925"), ok("next ann", "300 3292"), ok("fees ann", "1"),
		ok("day 301", "301"), ok("add bob boot 40 0 1", "980"), ok("order bob 1", "2 980"), ok("back ann 1 0 2", "6025"), bad("back ann 2 0 1", api.ErrNone),
		ok("due ann", "3292"), ok("open ann", "1 1 300 3292 1 2 330 2733"), ok("enough ann 310", "3292"), bad("enough ann 300", api.ErrRange),
		ok("sent ann 1500 417 900", "0"), ok("sent bob 1600 447 300", "1"), ok("day 310", "310"), ok("fees bob", "1"),
		ok("box 1400 1450 04?7", "2"), ok("stamped 1550 1600 -", "1"), bad("stamped 1550 1600 -", api.ErrClerkFalse),
		ok("which 0", "0"), ok("told 1", "1"), ok("returned", "1 / 0"), ok("worth", "300 1200"), bad("which 2", api.ErrRange),
	}
}

// journal is those lines of the season that are done, and change something.
func journal() []string {
	var list []string
	for _, s := range season() {
		if s.e == api.OK && plainChanges(s.line) {
			list = append(list, s.line)
		}
	}
	return list
}

func TestP11_2Season(t *testing.T) {
	tell(t, begin(t, example()), season()...)
}

func TestP11_3WhatItHas(t *testing.T) {
	c := begin(t, example())
	tell(t, c, season()...)
	do(t, c, "add bob boot 42 0 7", "add bob boot 40 0 1")
	lines := []api.BookLine{sample.Line(13, 0, 40, 0), sample.Line(2, 2, 1, 2)}
	want := has{
		day:     310,
		parcels: []api.ClaimParcel{{Day: 301, Weight: 1500, Seal: 417, Value: 900}, {Day: 301, Weight: 1600, Seal: 447, Value: 300}},
		boxes:   []api.ClaimBox{{Day: 310, Weight: span(1400, 1450), Seal: "04?7"}, {Day: 310, Weight: span(1550, 1600), Stamp: true}},
		journal: append(journal(), "add bob boot 42 0 7", "add bob boot 40 0 1"),
	}
	want.lists[2] = []api.BookLine{sample.Line(7, 0, 42, 0), sample.Line(1, 0, 40, 0)}
	want.events[1] = []api.AccountEvent{
		{Day: 270, Kind: api.AccountOrder, Order: 1, Parts: 3, Lines: lines},
		{Day: 280, Kind: api.AccountPaid, Cents: 4000},
		{Day: 301, Kind: api.AccountReturn, Order: 1, Line: 0, Many: 2},
	}
	want.events[2] = []api.AccountEvent{{Day: 301, Kind: api.AccountOrder, Order: 2, Parts: 1, Lines: []api.BookLine{sample.Line(1, 0, 40, 0)}}}
	want.file = strings.Join(want.journal, "\n") + "\n"
	if h := show(c); !h.same(want) {
		t.Errorf("the clerk has %v, not %v", h, want)
	}
	for _, n := range append(extremes, 2, 3, 4) {
		if isOne := n == 0 || n == 1; len(c.Events(n)) > 0 != isOne || len(c.List(n)) > 0 != (n == 1) {
			t.Errorf("of the customer %d: %v, %v", n, c.List(n), c.Events(n))
		}
	}
}

// P11.2: each word wants so many tokens, no more and no fewer, with one blank between each two.
func TestP11_2Tokens(t *testing.T) {
	c := begin(t, example())
	for _, line := range []string{
		"day 1", "add ann boot 40 0 1", "order ann 1", "paid ann 1", "back ann 1 0 1", "sent ann 1 1 1", "box 1 1 -", "stamped 1 1 -",
		"price boot 40 0", "means 1", "list ann", "owes ann", "due ann", "fees ann", "open ann", "next ann", "enough ann 1", "which 0", "told 0", "returned", "worth", "today",
	} {
		if _, e := begin(t, example()).Do(line); e == api.ErrClerkLine {
			t.Errorf("%q: %d", line, e)
		}
		word, rest, has := strings.Cut(line, " ")
		wrong := []string{line + " ", " " + line, line + " 1", line + " ann", line + "\n", line + "\t", strings.ToUpper(line), word + "s" + line[len(word):], word[1:] + line[len(word):]}
		if has {
			wrong = append(wrong, word, word+" ", word+"  "+rest, line[:strings.LastIndex(line, " ")], line[:strings.LastIndex(line, " ")+1], strings.ReplaceAll(line, " ", "\t"), strings.ReplaceAll(line, " ", "  "))
		}
		isName := strings.HasSuffix(line, " ann") // then the token may be any one, which nobody is
		for _, line := range wrong {
			want := api.ErrClerkLine
			if isName && strings.HasPrefix(line, word+" ann") && !strings.Contains(line[len(word)+1:], " ") {
				want = api.ErrClerkUnknown
			}
			tell(t, c, bad(line, want))
		}
	}
	tell(t, c, bad("", api.ErrClerkLine), bad(" ", api.ErrClerkLine), bad("\n", api.ErrClerkLine), bad("ann", api.ErrClerkLine), bad("1", api.ErrClerkLine), bad("add ann  40 0 1", api.ErrClerkLine), bad("price  40 0", api.ErrClerkLine), bad("list  ", api.ErrClerkLine))
	if h := show(c); !h.same(has{}) {
		t.Errorf("then the clerk has %v", h)
	}
}

// P11.2: a line has at most 200 bytes; a name in it is not told by its length.
func TestP11_2Long(t *testing.T) {
	c := begin(t, example())
	tell(t, c, bad("list "+strings.Repeat("a", 195), api.ErrClerkUnknown), bad("list "+strings.Repeat("a", 196), api.ErrClerkLine), bad("list "+strings.Repeat("é", 97)+"x", api.ErrClerkUnknown), bad("list "+strings.Repeat("é", 98), api.ErrClerkLine),
		bad("day "+strings.Repeat("1", 196), api.ErrClerkLine), bad("today"+strings.Repeat(" ", 195), api.ErrClerkLine), bad(strings.Repeat("today ", 1<<20), api.ErrClerkLine))
}

// numeric is lines with an N where a number must be.
func numeric() []string {
	return []string{
		"day N", "add ann boot N 0 1", "add ann boot 40 N 1", "add ann boot 40 0 N", "order ann N", "paid ann N", "back ann N 0 1", "back ann 1 N 1", "back ann 1 0 N", "sent ann N 1 1", "sent ann 1 N 1", "sent ann 1 1 N",
		"box N 1 -", "box 1 N -", "stamped N 1 -", "stamped 1 N -", "price boot N 0", "price boot 40 N", "means N", "enough ann N", "which N", "told N",
	}
}

// P11.2: a number is 1 to 7 digits, the first one not 0 unless it is the only one.
func TestP11_2Numbers(t *testing.T) {
	for _, form := range numeric() {
		for _, token := range []string{"", "00", "01", "007", "0000000", "10000000", "99999999", "18446744073709551616", "+1", "-1", "-0", "-", "1.", "1e1", "0x1", "1_0", "x", "?", "١", "1\x00", "1\n", "/", ":", "1/", "1:", "ann"} {
			if answer, e := begin(t, example()).Do(strings.Replace(form, "N", token, 1)); answer != "" || e != api.ErrClerkLine {
				t.Errorf("%s with %q: %q, %d", form, token, answer, e)
			}
		}
		for _, token := range []string{"0", "1", "9", "10", "1234567", "9999999"} {
			if _, e := begin(t, example()).Do(strings.Replace(form, "N", token, 1)); e == api.ErrClerkLine {
				t.Errorf("%s with %q: %d", form, token, e)
			}
		}
	}
}

// P11.2: a seal is -, or four bytes, each a digit or a question mark.
func TestP11_2Seals(t *testing.T) {
	for _, word := range []string{"box", "stamped"} {
		for _, token := range []string{"", "?", "0", "417", "00417", "?????", "--", "----", "-417", "041-", "+417", "04x7", "04/7", "04:7", "04 7", "04*7", "04é", "é17", "041\n", "????\n", "nothing"} {
			if answer, e := begin(t, example()).Do(word + " 1 1 " + token); answer != "" || e != api.ErrClerkLine {
				t.Errorf("%s with %q: %q, %d", word, token, answer, e)
			}
		}
		for _, token := range []string{"-", "0000", "0417", "9999", "????", "0??7", "?41?"} {
			c := do(t, begin(t, example()), "sent ann 1 417 1", "day 3")
			do(t, c, "box 1 1 "+token)
			if boxes := c.Boxes(); len(boxes) != 1 || boxes[0].Seal != strings.TrimPrefix(token, "-") {
				t.Errorf("%s with %q: %v", word, token, boxes)
			}
		}
	}
}

func TestP11_2Day(t *testing.T) {
	c := begin(t, example())
	tell(t, c, ok("day 0", "0"), ok("day 7", "7"), bad("day 6", api.ErrRange), ok("day 7", "7"), bad("day 0", api.ErrRange), bad("day 4001", api.ErrRange), ok("today", "7"), ok("day 4000", "4000"), ok("day 4000", "4000"), bad("day 4001", api.ErrRange), bad("day 3999", api.ErrRange), bad("day 9999999", api.ErrRange), ok("today", "4000"))
	if c.Day() != 4000 || len(c.Journal()) != 5 {
		t.Errorf("%d, %v", c.Day(), c.Journal())
	}
}

func TestP11_2Add(t *testing.T) {
	c := do(t, begin(t, example()), "day 270")
	tell(t, c,
		// errors, and which one comes first
		bad("add eve boot 0 4 0", api.ErrClerkUnknown), bad("add boot ann 40 0 1", api.ErrClerkUnknown), bad("add ann bat 0 4 0", api.ErrClerkUnknown), bad("add eve bat 40 0 1", api.ErrClerkUnknown),
		bad("add ann boot 0 0 1", api.ErrRange), bad("add ann boot 100 0 1", api.ErrRange), bad("add ann boot 40 4 1", api.ErrRange), bad("add ann boot 40 0 0", api.ErrRange), bad("add ann boot 40 0 1001", api.ErrRange),
		bad("add ann boot 99 0 1001", api.ErrRange), bad("add ann boot 99 3 1", api.ErrNone), bad("add ann boot 1 0 1000", api.ErrNone), bad("add ann boot 42 1 1", api.ErrNone), bad("add ann nail 1 1 1", api.ErrNone),
		// what the list costs: of each line by itself
		ok("add ann boot 40 1 11", "9900"), ok("add ann boot 40 0 1", "10800"), ok("add ann nail 1 2 1000", "56650"), ok("add ann boot 42 0 1", "57640"), ok("list ann", "4 57640"), ok("list bob", "0 0"), ok("add bob lamp 7 0 12", "3300"),
	)
	// an item has no price any more: of a list with it nothing is told, but other items can be added
	tell(t, c, ok("day 301", "301"), ok("list ann", "4 -"), ok("list bob", "1 -"), bad("add bob lamp 7 0 1", api.ErrNone), ok("add bob boot 40 0 1", "-"), ok("list bob", "2 -"), bad("order bob 1", api.ErrNone), ok("list bob", "2 -"))
	full := do(t, begin(t, example()), append([]string{"day 270"}, many(19, "add ann boot 41 1 1")...)...)
	tell(t, full, ok("add ann boot 41 1 1", "19000"), bad("add ann boot 41 1 1", api.ErrFull), bad("add ann lamp 8 0 1", api.ErrNone), bad("add ann boot 41 1 0", api.ErrRange), bad("add ann bat 41 1 1", api.ErrClerkUnknown),
		ok("list ann", "20 19000"), ok("add bob boot 41 1 1", "950"), ok("order ann 1", "1 19000"), ok("add ann boot 41 1 1", "950"))
}

func TestP11_2Order(t *testing.T) {
	c := do(t, begin(t, example()), "day 270")
	tell(t, c, bad("order eve 0", api.ErrClerkUnknown), bad("order boot 1", api.ErrClerkUnknown), bad("order ann 0", api.ErrRange), bad("order ann 13", api.ErrRange), bad("order ann 12", api.ErrClerkEmpty))
	do(t, c, "add ann lamp 7 0 1", "add bob boot 40 0 1")
	tell(t, c, ok("order bob 12", "1 900"), bad("order bob 12", api.ErrClerkEmpty), ok("list ann", "1 300"), ok("open bob", "1 0 270 75 1 1 300 75 1 2 330 75 1 3 360 75 1 4 390 75 1 5 420 75 1 6 450 75 1 7 480 75 1 8 510 75 1 9 540 75 1 10 570 75 1 11 600 75"))
	tell(t, c, ok("day 301", "301"), bad("order ann 13", api.ErrRange), bad("order ann 1", api.ErrNone), ok("list ann", "1 -"), ok("add bob boot 40 0 2", "1960"), ok("order bob 1", "2 1960"))
}

// P11.2: numbers of orders go on over all customers, whatever else happens.
func TestP11_8Numbers(t *testing.T) {
	c := do(t, begin(t, changed(customers("ann", "bob", "cal", "dan"))), "paid dan 5", "paid ann 5", "day 270")
	for i, who := range []string{"bob", "ann", "ann", "dan", "cal", "bob"} {
		tell(t, c, ok("add "+who+" boot 40 0 1", "900"), ok("order "+who+" 1", text(i+1, 900)))
		do(t, c, "paid "+who+" 900", "back "+who+" "+text(i+1)+" 0 1")
	}
	for who, want := range [][]int{{2, 3}, {1, 6}, {5}, {4}} {
		var got []int
		for _, e := range c.Events(who) {
			if e.Kind == api.AccountOrder {
				got = append(got, e.Order)
			}
		}
		if !slices.Equal(got, want) {
			t.Errorf("the customer %d ordered %v, not %v", who, got, want)
		}
	}
}

func TestP11_2Paid(t *testing.T) {
	c := do(t, begin(t, example()), "day 270")
	tell(t, c, bad("paid eve 0", api.ErrClerkUnknown), bad("paid ann 0", api.ErrRange), bad("paid ann 1000001", api.ErrRange), ok("paid ann 1", "-1"), ok("paid ann 1000000", "-1000001"), ok("owes ann", "-1000001"), ok("owes bob", "0"), ok("due ann", "0"))
	tell(t, c, ok("add ann boot 40 0 1", "900"), ok("order ann 2", "1 900"), ok("owes ann", "-999101"), ok("open ann", "-"), bad("next ann", api.ErrNone))
}

func TestP11_2Back(t *testing.T) {
	c := do(t, begin(t, example()), "day 270", "add ann boot 40 0 13", "add ann nail 1 2 2", "order ann 3", "add bob boot 40 0 1", "order bob 1")
	tell(t, c,
		bad("back eve 1 0 1", api.ErrClerkUnknown), bad("back ann 2 0 1", api.ErrNone), bad("back ann 0 0 1", api.ErrNone), bad("back ann 3 0 0", api.ErrNone), bad("back ann 1 2 1", api.ErrNone), bad("back ann 1 2 0", api.ErrNone), bad("back ann 1 9999999 1", api.ErrNone), bad("back bob 1 0 1", api.ErrNone), bad("back bob 2 1 1", api.ErrNone),
		bad("back ann 1 0 0", api.ErrRange), bad("back ann 1 0 14", api.ErrRange), bad("back ann 1 1 3", api.ErrRange), ok("back ann 1 0 10", "2800"), bad("back ann 1 0 4", api.ErrRange), ok("back ann 1 0 3", "100"), bad("back ann 1 0 1", api.ErrRange), bad("back ann 1 0 0", api.ErrRange), ok("back ann 1 1 1", "50"), ok("back ann 1 1 1", "0"), bad("back ann 1 1 1", api.ErrRange), ok("back bob 2 0 1", "0"),
	)
	// of a payment there is no line, though it names the order 0
	tell(t, c, ok("paid ann 5", "-5"), bad("back ann 0 0 1", api.ErrNone))
}

// P11.2: of a customer there are at most 24 events, of whichever kind.
func TestP11_2EventsAreFull(t *testing.T) {
	c := do(t, begin(t, example()), "day 270", "add ann boot 40 0 9", "order ann 1", "add ann nail 1 2 1")
	do(t, c, many(22, "paid ann 1")...)
	tell(t, c, ok("back ann 1 0 1", "7178"))
	tell(t, c,
		bad("paid ann 1", api.ErrFull), bad("paid ann 0", api.ErrRange), bad("back ann 1 0 1", api.ErrFull), bad("back ann 1 0 9", api.ErrRange), bad("back ann 1 1 1", api.ErrNone), bad("order ann 1", api.ErrFull), bad("order ann 13", api.ErrRange),
		ok("list ann", "1 50"), ok("owes ann", "7178"), ok("paid bob 1", "-1"),
	)
	tell(t, c, ok("day 451", "451"), bad("order ann 1", api.ErrNone), ok("list ann", "1 -"), bad("order bob 1", api.ErrClerkEmpty))
	if len(c.Events(0)) != 24 || len(c.Events(1)) != 1 {
		t.Errorf("%d, %d events", len(c.Events(0)), len(c.Events(1)))
	}
}

// P11.2: with four customers there are at most 96 orders, which all have room.
func TestP11_2AllOrders(t *testing.T) {
	c := do(t, begin(t, changed(customers("ann", "bob", "cal", "dan"))), "day 270")
	for n := range 96 {
		who := []string{"ann", "bob", "cal", "dan"}[n%4]
		tell(t, c, ok("add "+who+" nail 1 2 1", "50"), ok("order "+who+" 1", text(n+1, 50)))
	}
	tell(t, c, ok("add dan nail 1 2 1", "50"), bad("order dan 1", api.ErrFull), bad("paid ann 1", api.ErrFull))
}

func TestP11_2Sent(t *testing.T) {
	c := begin(t, example())
	tell(t, c, bad("sent eve 50001 1 1", api.ErrClerkUnknown), bad("sent lamp 1 1 1", api.ErrClerkUnknown), bad("sent ann 50001 1 1", api.ErrRange), bad("sent ann 1 10000 1", api.ErrRange), bad("sent ann 1 1 100001", api.ErrRange),
		ok("sent ann 50000 9999 100000", "0"), ok("sent bob 0 0 0", "1"), bad("sent bob 0 0417 0", api.ErrClerkLine), ok("day 9", "9"), ok("sent bob 3 2 1", "2"))
	want := []api.ClaimParcel{{Day: 0, Weight: 50000, Seal: 9999, Value: 100000}, {}, {Day: 9, Weight: 3, Seal: 2, Value: 1}}
	if got := c.Parcels(); !slices.Equal(got, want) {
		t.Errorf("%v, not %v", got, want)
	}
	do(t, c, many(4, "sent ann 1 1 1")...)
	tell(t, c, ok("sent ann 1 1 1", "7"), bad("sent ann 1 1 1", api.ErrFull), bad("sent bob 1 1 1", api.ErrFull), bad("sent ann 50001 1 1", api.ErrRange), bad("sent eve 1 1 1", api.ErrClerkUnknown))
}

func TestP11_2Box(t *testing.T) {
	c := do(t, begin(t, example()), "sent ann 50000 417 900", "sent ann 10 447 300", "day 2")
	// on the day 2 no parcel can be back
	tell(t, c, bad("stamped 10 10 -", api.ErrClerkFalse), bad("stamped 11 10 -", api.ErrRange), ok("day 3", "3"), bad("box 50000 50001 -", api.ErrRange), bad("box 50001 50001 -", api.ErrRange), bad("box 1 0 -", api.ErrRange))
	tell(t, c, ok("stamped 50000 50000 0?17", "1"), bad("stamped 50000 50000 -", api.ErrClerkFalse), ok("box 0 9999 -", "2"), ok("which 1", "1"), ok("told 1", "2"), ok("returned", "0 / 1"), ok("worth", "900 1200"))
	tell(t, c, ok("box 20 20 -", "0"), ok("told 2", "0"), ok("which 2", "-"), ok("told 1", "1"), ok("returned", "0 1 / -"), ok("worth", "1200 1200"), bad("box 20 20 -", api.ErrClerkFalse), bad("box 20 19 -", api.ErrRange))
	want := []api.ClaimBox{{Day: 3, Weight: span(50000, 50000), Seal: "0?17", Stamp: true}, {Day: 3, Weight: span(0, 9999)}, {Day: 3, Weight: span(20, 20)}}
	if got := c.Boxes(); !slices.Equal(got, want) {
		t.Errorf("%v, not %v", got, want)
	}
	tell(t, c, ok("sent ann 20 20 20", "2"), ok("told 2", "0"), ok("day 63", "63"), bad("box 21 21 -", api.ErrClerkFalse), bad("box 10 10 0447", api.ErrClerkFalse), ok("box 20 20 0020", "1"), ok("returned", "0 1 2 / -"))
}

func TestP11_2BoxesAreFull(t *testing.T) {
	c := begin(t, changed(func(s *api.ClerkSetup) { s.Strange = 6 }))
	do(t, c, many(6, "box 1 1 -")...)
	tell(t, c, bad("box 1 1 -", api.ErrFull), bad("stamped 1 1 -", api.ErrFull), bad("box 2 1 -", api.ErrRange), bad("stamped 1 50001 -", api.ErrRange), bad("box 1 1 x", api.ErrClerkLine), ok("told 5", "0"), bad("told 6", api.ErrRange), bad("which 6", api.ErrRange), ok("which 5", "-"), ok("returned", "- / -"))
	if len(c.Boxes()) != 6 {
		t.Errorf("%d boxes", len(c.Boxes()))
	}
}

// P11.2: a journal has at most 300 lines; before any other error but that of its form, a line that would be one more is ErrFull.
func TestP11_2JournalIsFull(t *testing.T) {
	c := do(t, begin(t, example()), many(299, "day 270")...)
	tell(t, c, bad("day 269", api.ErrRange), ok("means 12", "lamp boot"), ok("add ann boot 40 0 1", "900"))
	h := show(c)
	tell(t, c,
		bad("day 271", api.ErrFull), bad("day 269", api.ErrFull), bad("day 01", api.ErrClerkLine), bad("day", api.ErrClerkLine), bad("add eve boot 40 0 1", api.ErrFull), bad("order ann 13", api.ErrFull), bad("order ann 1", api.ErrFull), bad("paid ann 0", api.ErrFull), bad("back ann 1 0 1", api.ErrFull), bad("sent ann 50001 1 1", api.ErrFull), bad("box 2 1 -", api.ErrFull), bad("stamped 1 1 -", api.ErrFull), bad("box 1 1 x", api.ErrClerkLine),
		ok("today", "270"), ok("list ann", "1 900"), bad("list eve", api.ErrClerkUnknown), bad("told 0", api.ErrRange),
	)
	if len(h.journal) != 300 || !show(c).same(h) {
		t.Errorf("%d lines, then %v", len(h.journal), show(c))
	}
}

func TestP11_2Price(t *testing.T) {
	c := do(t, begin(t, example()), "day 290")
	tell(t, c, bad("price bat 0 4", api.ErrClerkUnknown), bad("price ann 40 0", api.ErrClerkUnknown), bad("price boot 0 0", api.ErrRange), bad("price boot 100 0", api.ErrRange), bad("price boot 40 4", api.ErrRange), bad("price boot 99 3", api.ErrNone), bad("price boot 1 0", api.ErrNone), bad("price nail 1 0", api.ErrNone),
		ok("price boot 40 0", "900"), ok("price boot 40 1", "900"), ok("price boot 42 0", "990"), ok("price lamp 7 0", "300"), ok("price nail 1 2", "50"), ok("day 301", "301"), ok("price boot 40 0", "980"), bad("price boot 40 1", api.ErrNone), bad("price lamp 7 0", api.ErrNone), ok("day 451", "451"), bad("price nail 1 2", api.ErrNone))
}

// P11.2: what a number can mean is told for each book that is in use, in their order, also if two mean the same good by it.
func TestP11_2Means(t *testing.T) {
	c := begin(t, example())
	tell(t, c, bad("means 0", api.ErrRange), bad("means 10000", api.ErrRange), ok("means 9999", "-"), ok("means 12", "-"), ok("day 100", "100"), ok("means 12", "lamp"), ok("means 11", "boot"), ok("means 13", "-"), ok("day 280", "280"), ok("means 12", "lamp boot"), ok("means 13", "nail"), ok("day 281", "281"), ok("means 12", "boot"), ok("means 11", "-"))
	twice := begin(t, changed(func(s *api.ClerkSetup) { s.Rack.Issues[1].Entries[0].Number = 11 }))
	tell(t, twice, ok("day 270", "270"), ok("means 11", "boot boot"), ok("means 12", "lamp"))
}

func TestP11_2AsksOfCustomers(t *testing.T) {
	c := do(t, begin(t, example()), "day 270", "add ann boot 40 0 13", "add ann nail 1 2 2", "order ann 3", "add bob boot 40 0 1", "order bob 1", "day 280")
	for _, word := range []string{"list", "owes", "due", "fees", "open", "next"} {
		tell(t, c, bad(word+" eve", api.ErrClerkUnknown), bad(word+" boot", api.ErrClerkUnknown), bad(word+" an", api.ErrClerkUnknown), bad(word+" anna", api.ErrClerkUnknown), bad(word+" ANN", api.ErrClerkUnknown))
	}
	tell(t, c, bad("enough eve 0", api.ErrClerkUnknown), bad("enough ann 279", api.ErrRange), bad("enough ann 0", api.ErrRange), bad("enough ann 4001", api.ErrRange), ok("enough ann 280", "0"), ok("enough ann 4000", "10925"), ok("enough bob 4000", "0"),
		ok("owes ann", "10925"), ok("due ann", "3659"), ok("fees ann", "1"), ok("open ann", "1 0 270 3634 1 1 300 3633 1 2 330 3633"), ok("next ann", "300 3633"), ok("owes bob", "925"), ok("due bob", "925"), ok("open bob", "2 0 270 900"), bad("next bob", api.ErrNone))
	tell(t, c, ok("day 330", "330"), bad("next ann", api.ErrNone), ok("day 4000", "4000"), ok("enough ann 4000", "0"), ok("fees ann", "3"))
}

// fileOf is the file of some lines.
func fileOf(lines ...string) string {
	if len(lines) == 0 {
		return ""
	}
	return strings.Join(lines, "\n") + "\n"
}

func TestP11_4File(t *testing.T) {
	c := begin(t, example())
	if file := c.File(); file != "" {
		t.Errorf("the file of a new clerk: %q", file)
	}
	tell(t, c, season()...)
	if file := c.File(); file != fileOf(journal()...) {
		t.Errorf("the file: %q", file)
	}
}

func TestP11_4Open(t *testing.T) {
	lines := journal()
	for n := range len(lines) + 1 {
		c, at, e := clerk.Open(example(), fileOf(lines[:n]...))
		if c == nil || at != n || e != api.OK {
			t.Fatalf("Open of %d lines: %v, %d, %d", n, c, at, e)
		}
		if got := c.Journal(); !slices.Equal(got, lines[:n]) || c.File() != fileOf(lines[:n]...) {
			t.Fatalf("Open of %d lines: %q, %q", n, got, c.File())
		}
	}
	c, _, _ := clerk.Open(example(), fileOf(lines...))
	tell(t, c, ok("which 0", "0"), ok("told 1", "1"), ok("returned", "1 / 0"), ok("worth", "300 1200"), ok("open ann", "1 1 300 3292 1 2 330 2733"), ok("owes ann", "6050"), ok("today", "310"))
}

func TestP11_4WrongFiles(t *testing.T) {
	full := fileOf(many(300, "day 270")...)
	for _, x := range []struct {
		file string
		at   int
		e    api.Errno
	}{
		// of the whole file
		{strings.Repeat("\n", 65537), 0, api.ErrLong}, {strings.Repeat("x", 65537), 0, api.ErrLong}, {strings.Repeat("x", 65536), 0, api.ErrForm}, {strings.Repeat("x", 65535) + "\n", 0, api.ErrClerkLine}, {strings.Repeat("day 5\n", 1<<20), 0, api.ErrLong},
		{"x", 0, api.ErrForm}, {"day 5", 0, api.ErrForm}, {"day 5\nday 6", 0, api.ErrForm}, {"day 5\r", 0, api.ErrForm}, {"day 5\n\x00", 0, api.ErrForm}, {"today", 0, api.ErrForm},
		// lines that do not have the form
		{"\n", 0, api.ErrClerkLine}, {"\nday 5\n", 0, api.ErrClerkLine}, {"day 5\n\n", 1, api.ErrClerkLine}, {"day 5\r\n", 0, api.ErrClerkLine}, {"day 5\nday 6 \nday 7\n", 1, api.ErrClerkLine}, {"day 5\n day 6\n", 1, api.ErrClerkLine},
		// lines that ask
		{"today\n", 0, api.ErrClerkLine}, {"day 5\ntoday\n", 1, api.ErrClerkLine}, {"day 5\nlist eve\n", 1, api.ErrClerkLine}, {"day 5\nprice boot 0 0\n", 1, api.ErrClerkLine}, {"day 5\nday 6\nwhich 0\n", 2, api.ErrClerkLine}, {"owes\n", 0, api.ErrClerkLine},
		// lines that are errors: the first one is told
		{"day 5\nday 4\nday x\n", 1, api.ErrRange}, {"add eve boot 40 0 1\n", 0, api.ErrClerkUnknown}, {"day 270\nadd ann lamp 8 0 1\n", 1, api.ErrNone}, {"day 5\norder ann 1\ntoday\n", 1, api.ErrClerkEmpty}, {"day 5\nstamped 1 1 -\n", 1, api.ErrClerkFalse}, {"day 270\n" + fileOf(many(21, "add ann boot 40 0 1")...), 21, api.ErrFull},
		{full + "day 270\n", 300, api.ErrFull}, {full + "day 269\n", 300, api.ErrFull}, {full + "today\n", 300, api.ErrClerkLine}, {full + "day\n", 300, api.ErrClerkLine}, {full + "\n", 300, api.ErrClerkLine},
	} {
		if c, at, e := clerk.Open(example(), x.file); c != nil || at != x.at || e != x.e {
			t.Errorf("Open of %.60q: %v, %d, %d, not %d, %d", x.file, c, at, e, x.at, x.e)
		}
		wrong := changed(goods("boot"))
		if c, at, e := clerk.Open(wrong, x.file); c != nil || at != 0 || e != api.ErrClerk {
			t.Errorf("Open of a wrong setup, and %.60q: %v, %d, %d", x.file, c, at, e)
		}
	}
	if c, at, e := clerk.Open(example(), full); c == nil || at != 300 || e != api.OK {
		t.Errorf("Open of a full journal: %v, %d, %d", c, at, e)
	}
	if c, at, e := clerk.Open(example(), ""); c == nil || at != 0 || e != api.OK || !show(c).same(has{}) {
		t.Errorf("Open of an empty file: %v, %d, %d", c, at, e)
	}
}
