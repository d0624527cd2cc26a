package clerk_test

import (
	"fmt"
	"math"
	"math/rand"
	"reflect"
	"slices"
	"strings"
	"testing"

	"wishbook/api"
	"wishbook/clerk"
	"wishbook/sample"
)

// The least numbers, and the greatest ones, and what lies around zero.
var extremes = []int{math.MinInt, math.MinInt + 1, -1, 0, 1, math.MaxInt - 1, math.MaxInt}

var span = sample.Span

// example is the setup of the chapter.
func example() api.ClerkSetup {
	return api.ClerkSetup{
		Rack:  sample.Rack(),
		Goods: []string{"boot", "lamp", "nail"}, Customers: []string{"ann", "bob"},
		Grace: 5, Fee: 25,
		Days: span(3, 60), Wear: 200, Strange: 1,
	}
}

// changed is the setup of the chapter after a change.
func changed(do func(s *api.ClerkSetup)) api.ClerkSetup {
	s := example()
	do(&s)
	return s
}

// names returns so many different names of 16 bytes.
func names(many int) []string {
	var list []string
	for n := range many {
		list = append(list, fmt.Sprintf("name-of-16-%05d", n))
	}
	return list
}

// largest is a valid setup with as many things as there can be, and the greatest numbers.
func largest() api.ClerkSetup {
	return api.ClerkSetup{
		Rack:  sample.Largest(),
		Goods: names(api.BookGoods), Customers: names(api.ClerkCustomers),
		Grace: api.AccountGrace, Fee: api.AccountFee,
		Days: span(0, api.ClaimTerm), Wear: api.ClaimWear, Strange: api.ClaimBoxes,
	}
}

// clone copies a setup wholly, and leaves free room behind each list, with what no valid setup has.
func clone(s api.ClerkSetup) api.ClerkSetup {
	s.Rack = sample.Copy(s.Rack)
	s.Goods = sample.Roomy(s.Goods, "")
	s.Customers = sample.Roomy(s.Customers, "")
	return s
}

// begin returns a new clerk of a valid setup.
func begin(t *testing.T, s api.ClerkSetup) *clerk.Clerk {
	t.Helper()
	c, e := clerk.New(s)
	if c == nil || e != api.OK {
		t.Fatalf("New of %v: %v, %d", s, c, e)
	}
	return c
}

// said is a line, and what is answered.
type said struct {
	line, answer string
	e            api.Errno
}

func ok(line, answer string) said { return said{line: line, answer: answer} }

func bad(line string, e api.Errno) said { return said{line: line, e: e} }

// tell says lines to a clerk, who must answer each one as it is told here.
func tell(t *testing.T, c *clerk.Clerk, list ...said) {
	t.Helper()
	for i, s := range list {
		if answer, e := c.Do(s.line); answer != s.answer || e != s.e {
			t.Fatalf("line %d, %q: %q, %d, not %q, %d", i, s.line, answer, e, s.answer, s.e)
		}
	}
}

// do says lines to a clerk, none of which may be an error.
func do(t *testing.T, c *clerk.Clerk, lines ...string) *clerk.Clerk {
	t.Helper()
	for i, line := range lines {
		if answer, e := c.Do(line); answer == "" || e != api.OK {
			t.Fatalf("line %d, %q: %q, %d", i, line, answer, e)
		}
	}
	return c
}

// many is a line, so many times.
func many(n int, line string) []string { return slices.Repeat([]string{line}, n) }

// has is all that a clerk shows of what it has.
type has struct {
	day     int
	lists   [6][]api.BookLine // those of two numbers that are none of a customer among them: -1, and 4
	events  [6][]api.AccountEvent
	parcels []api.ClaimParcel
	boxes   []api.ClaimBox
	journal []string
	file    string
}

func show(c *clerk.Clerk) has {
	h := has{day: c.Day(), parcels: c.Parcels(), boxes: c.Boxes(), journal: c.Journal(), file: c.File()}
	for i := range h.lists {
		h.lists[i], h.events[i] = c.List(i-1), c.Events(i-1)
	}
	return h
}

// same reports whether all is the same, nil and empty lists alike.
func (h has) same(other has) bool { return reflect.DeepEqual(h.plain(), other.plain()) }

// plain is all, with nil for each empty list.
func (h has) plain() has {
	for i := range h.lists {
		h.lists[i] = orNil(h.lists[i])
		h.events[i] = orNil(slices.Clone(h.events[i]))
		for k := range h.events[i] {
			h.events[i][k].Lines = orNil(h.events[i][k].Lines)
		}
	}
	h.parcels, h.boxes, h.journal = orNil(h.parcels), orNil(h.boxes), orNil(h.journal)
	return h
}

func orNil[T any](list []T) []T {
	if len(list) == 0 {
		return nil
	}
	return list
}

// Of random seasons: the last day on which prices can be held, and by how many days at most a line goes on.
const (
	lastPrice = 240
	step      = 10
)

// someSetup returns some valid setup: now and then that of the chapter.
func someSetup(d sample.Dice) api.ClerkSetup {
	if d(6) == 0 {
		return example()
	}
	r := d.Rack()
	for i := range r.Issues {
		b := &r.Issues[i]
		b.Days = span(b.Days.Low*lastPrice/sample.LastDay, b.Days.High*lastPrice/sample.LastDay)
		b.Held = b.Held * lastPrice / sample.LastDay
	}
	r.Issues[0].Days.Low, r.Issues[0].Held = 0, lastPrice-d(lastPrice/2)
	return api.ClerkSetup{
		Rack:  r,
		Goods: []string{"boot", "lamp", "nail", "a", "a-1"}[:r.Goods], Customers: []string{"ann", "bob", "boot", "a"}[:1+d(api.ClerkCustomers)],
		Grace: []int{0, 1, 5, 30, 60}[d(5)], Fee: d(30),
		Days: span(d(3), 20+d(40)), Wear: d(10), Strange: min(d(4), d(7)),
	}
}

// teller makes up lines for a clerk.
type teller struct {
	sample.Dice
	s        api.ClerkSetup
	c        *clerk.Clerk
	careless bool   // whether it often makes mistakes
	often    string // a word that it often begins with
}

// pick returns one of several texts.
func (d teller) pick(texts ...string) string { return texts[d.Dice(len(texts))] }

// odd reports whether there is to be a mistake.
func (d teller) odd() bool { return d.careless && d.Dice(12) == 0 }

func (d teller) who() string {
	if d.odd() {
		return d.pick("eve", "Ann", "an", "anne", "-", "0", "lamp", "ann\n")
	}
	return d.pick(d.s.Customers...)
}

func (d teller) goods() string {
	if d.odd() {
		return d.pick("bat", "Boot", "boo", "boots", "-", "0", "bob", "b\xffot")
	}
	return d.pick(d.s.Goods...)
}

// number returns some number from low to high, or now and then another one, or none.
func (d teller) number(low, high int) string {
	if d.odd() {
		return d.pick("0", fmt.Sprint(low-1), fmt.Sprint(high+1), "00", "01", "-1", "+1", "1e1", "9999999", "10000000", "x", "", "1\n", "٣")
	}
	return fmt.Sprint(low + d.Dice(max(1, high-low+1)))
}

// item returns a size and a colour: most often those of an entry.
func (d teller) item(name string) (size, colour string) {
	good := slices.Index(d.s.Goods, name)
	b := d.s.Rack.Issues[d.Dice(len(d.s.Rack.Issues))]
	for _, e := range b.Entries {
		if e.Good == good && d.Dice(8) > 0 {
			for colour := range api.BookColours {
				if e.Colours>>colour%2 == 1 && !d.odd() {
					return fmt.Sprint(e.Sizes[d.Dice(len(e.Sizes))].Size), fmt.Sprint(colour)
				}
			}
		}
	}
	return d.number(1, 6), d.number(0, 3)
}

// line returns some line, more often than not one that can be done.
func (d teller) line() string {
	word := d.pick("day", "add", "add", "add", "add", d.often, "order", "paid", "back", "back", "sent", "box", "stamped",
		"price", "means", "list", "owes", "due", "fees", "open", "next", "enough", "which", "told", "returned", "worth", "today", d.often, d.often, d.often)
	if d.odd() {
		word = d.pick("", "Day", "days", "order ", " order", "today ", "box\t1", "today\n", "all")
	}
	tokens := append([]string{word}, d.tokens(word)...)
	switch {
	case d.odd() && d.odd():
		tokens = append(tokens, d.pick("", "1", "ann"))
	case d.odd() && d.odd():
		tokens = tokens[:len(tokens)-1]
	}
	return strings.Join(tokens, " ")
}

func (d teller) tokens(word string) []string {
	today := d.c.Day()
	switch word {
	case "day":
		return []string{d.number(today, today+d.Dice(step))}
	case "add":
		good := d.goods()
		size, colour := d.item(good)
		return []string{d.who(), good, size, colour, d.number(1, 30)}
	case "order":
		return []string{d.who(), d.number(1, 4)}
	case "paid":
		return []string{d.who(), d.number(1, 60)}
	case "back":
		return d.back()
	case "sent":
		return []string{d.who(), d.number(0, 50), d.number(0, 12), d.number(0, 100)}
	case "box", "stamped":
		return d.box()
	case "price":
		good := d.goods()
		size, colour := d.item(good)
		return []string{good, size, colour}
	case "means":
		return []string{d.number(1, 14)}
	case "list", "owes", "due", "fees", "open", "next":
		return []string{d.who()}
	case "enough":
		return []string{d.who(), d.number(today, today+100)}
	case "which", "told":
		return []string{d.number(0, len(d.c.Boxes())-1)}
	}
	return nil
}

// back returns some pieces of a line of some order.
func (d teller) back() []string {
	who := d.who()
	events := d.c.Events(slices.Index(d.s.Customers, who))
	if len(events) > 0 {
		if e := events[d.Dice(len(events))]; e.Kind == api.AccountOrder && !d.odd() {
			line := d.Dice(len(e.Lines))
			return []string{who, fmt.Sprint(e.Order), fmt.Sprint(line), d.number(1, 1+e.Lines[line].Many)}
		}
	}
	return []string{who, d.number(1, 5), d.number(0, 3), d.number(1, 5)}
}

// box returns some box: most often one that can be a parcel.
func (d teller) box() []string {
	low, seal := d.Dice(50), d.pick("-", "0001", "00?2", "????")
	if parcels := d.c.Parcels(); len(parcels) > 0 && d.Dice(4) > 0 {
		p := parcels[d.Dice(len(parcels))]
		sure := fmt.Sprintf("%04d", p.Seal)
		low, seal = max(0, p.Weight-d.Dice(10)), d.pick(sure, sure[:3]+"?", "??"+sure[2:], "-")
	}
	if d.odd() {
		seal = d.pick("", "?", "12", "00123", "000x", "--", "0 01", "000é", "-001")
	}
	return []string{fmt.Sprint(low), d.number(low, low+20), seal}
}

// eachSeason does something with many random seasons, always the same ones: with a new clerk, and with what makes up lines for it.
func eachSeason(t *testing.T, many int, careless bool, do func(d teller)) {
	t.Helper()
	rnd := rand.New(rand.NewSource(11))
	for range many {
		s := someSetup(rnd.Intn)
		if e := clerk.Check(s); e != api.OK {
			t.Fatalf("Check of the valid setup %v: %d", s, e)
		}
		do(teller{rnd.Intn, s, begin(t, s), careless, []string{"order", "add", "paid"}[rnd.Intn(3)]})
	}
}
