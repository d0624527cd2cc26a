package clerk_test

import (
	"fmt"
	"regexp"
	"slices"
	"strconv"
	"strings"

	"wishbook/account"
	"wishbook/api"
	"wishbook/book"
	"wishbook/claim"
)

// plain is a clerk that reads the tables of the chapter word by word.
type plain struct {
	api.ClerkSetup
	has
	orders int
}

// forms is what a line with each word must look like.
var forms = map[string]*regexp.Regexp{}

func init() {
	kinds := strings.NewReplacer("T", "[^ ]+", "N", "(?:0|[1-9][0-9]{0,6})", "S", "(?:-|[0-9?]{4})")
	for word, form := range map[string]string{
		"day": " N", "add": " T T N N N", "order": " T N", "paid": " T N", "back": " T N N N", "sent": " T N N N", "box": " N N S", "stamped": " N N S",
		"price": " T N N", "means": " N", "list": " T", "owes": " T", "due": " T", "fees": " T", "open": " T", "next": " T", "enough": " T N",
		"which": " N", "told": " N", "returned": "", "worth": "", "today": "",
	} {
		forms[word] = regexp.MustCompile("^" + word + kinds.Replace(form) + "$")
	}
}

func plainHasForm(line string) bool {
	form := forms[strings.Split(line, " ")[0]]
	return form != nil && form.MatchString(line) && len(line) <= 200
}

// plainChanges reports whether a line that has the form changes something.
func plainChanges(line string) bool {
	return slices.Contains([]string{"day", "add", "order", "paid", "back", "sent", "box", "stamped"}, strings.Split(line, " ")[0])
}

// do does a line.
func (p *plain) do(line string) (string, api.Errno) {
	if !plainHasForm(line) {
		return "", api.ErrClerkLine
	}
	tokens := strings.Split(line, " ")
	if !plainChanges(line) {
		return p.ask(tokens[0], tokens[1:])
	}
	if len(p.journal) == 300 {
		return "", api.ErrFull
	}
	answer, e := p.change(tokens[0], tokens[1:])
	if e != api.OK {
		return "", e
	}
	p.journal = append(p.journal, line)
	p.file += line + "\n"
	return answer, api.OK
}

// find returns the number of a name.
func find(names []string, name string) (int, api.Errno) {
	if n := slices.Index(names, name); n >= 0 {
		return n, api.OK
	}
	return -1, api.ErrClerkUnknown
}

// at reads the number at a place among tokens; each token that is none is told as -1.
func at(tokens []string, i int) int {
	n, err := strconv.Atoi(tokens[i])
	if err != nil {
		return -1
	}
	return n
}

func (p *plain) change(word string, tokens []string) (string, api.Errno) {
	switch word {
	case "day":
		day := at(tokens, 0)
		if day < p.day || day > 4000 {
			return "", api.ErrRange
		}
		p.day = day
		return tokens[0], api.OK
	case "box":
		return p.box(tokens, false)
	case "stamped":
		return p.box(tokens, true)
	}
	who, e := find(p.Customers, tokens[0])
	if e != api.OK {
		return "", e
	}
	switch word {
	case "add":
		return p.add(who, tokens)
	case "order":
		return p.order(who, at(tokens, 1))
	case "paid":
		cents := at(tokens, 1)
		if cents < 1 || cents > 1000000 {
			return "", api.ErrRange
		}
		return p.event(who, api.AccountEvent{Day: p.day, Kind: api.AccountPaid, Cents: cents})
	case "back":
		return p.back(who, at(tokens, 1), at(tokens, 2), at(tokens, 3))
	}
	sent := api.ClaimParcel{Day: p.day, Weight: at(tokens, 1), Seal: at(tokens, 2), Value: at(tokens, 3)}
	if sent.Weight > 50000 || sent.Seal > 9999 || sent.Value > 100000 {
		return "", api.ErrRange
	}
	if len(p.parcels) == 8 {
		return "", api.ErrFull
	}
	p.parcels = append(p.parcels, sent)
	return strconv.Itoa(len(p.parcels) - 1), api.OK
}

// list and events are those of a customer.
func (p *plain) list(who int) *[]api.BookLine { return &p.lists[who+1] }

func (p *plain) eventsOf(who int) *[]api.AccountEvent { return &p.events[who+1] }

// costs is what the list of a customer costs, as a text.
func (p *plain) costs(who int) string {
	sum, e := book.Sum(p.Rack, p.day, *p.list(who))
	if e == api.ErrNone {
		return "-"
	}
	return strconv.Itoa(sum)
}

func (p *plain) add(who int, tokens []string) (string, api.Errno) {
	good, e := find(p.Goods, tokens[1])
	if e != api.OK {
		return "", e
	}
	size, colour, many := at(tokens, 2), at(tokens, 3), at(tokens, 4)
	if size < 1 || size > 99 || colour > 3 || many < 1 || many > 1000 {
		return "", api.ErrRange
	}
	line := api.BookLine{Item: api.BookItem{Good: good, Size: size, Colour: colour}, Many: many}
	if _, e := book.Price(p.Rack, p.day, line.Item); e != api.OK {
		return "", api.ErrNone
	}
	if len(*p.list(who)) == 20 {
		return "", api.ErrFull
	}
	*p.list(who) = append(*p.list(who), line)
	return p.costs(who), api.OK
}

func (p *plain) order(who, parts int) (string, api.Errno) {
	lines := *p.list(who)
	if parts < 1 || parts > 12 {
		return "", api.ErrRange
	}
	if len(lines) == 0 {
		return "", api.ErrClerkEmpty
	}
	costs := p.costs(who)
	if costs == "-" {
		return "", api.ErrNone
	}
	if p.orders == 99 {
		return "", api.ErrFull
	}
	if _, e := p.event(who, api.AccountEvent{Day: p.day, Kind: api.AccountOrder, Order: p.orders + 1, Parts: parts, Lines: lines}); e != api.OK {
		return "", e
	}
	p.orders++
	*p.list(who) = nil
	return fmt.Sprint(p.orders, " ", costs), api.OK
}

func (p *plain) back(who, number, line, many int) (string, api.Errno) {
	left := -1
	for _, e := range *p.eventsOf(who) {
		if e.Kind == api.AccountOrder && e.Order == number && line < len(e.Lines) {
			left = e.Lines[line].Many
		}
	}
	if left < 0 {
		return "", api.ErrNone
	}
	for _, e := range *p.eventsOf(who) {
		if e.Kind == api.AccountReturn && e.Order == number && e.Line == line {
			left -= e.Many
		}
	}
	if many < 1 || many > left {
		return "", api.ErrRange
	}
	return p.event(who, api.AccountEvent{Day: p.day, Kind: api.AccountReturn, Order: number, Line: line, Many: many})
}

// event adds one, and returns what the customer owes.
func (p *plain) event(who int, e api.AccountEvent) (string, api.Errno) {
	if len(*p.eventsOf(who)) == 24 {
		return "", api.ErrFull
	}
	*p.eventsOf(who) = append(*p.eventsOf(who), e)
	owes, errno := account.Owes(p.account(who), p.day)
	return strconv.Itoa(owes), errno
}

func (p *plain) account(who int) api.AccountFile {
	return api.AccountFile{Rack: p.Rack, Grace: p.Grace, Fee: p.Fee, Events: *p.eventsOf(who)}
}

func (p *plain) desk() api.ClaimDesk {
	return api.ClaimDesk{Days: p.Days, Wear: p.Wear, Strange: p.Strange, Parcels: p.parcels, Boxes: p.boxes}
}

func (p *plain) box(tokens []string, stamp bool) (string, api.Errno) {
	box := api.ClaimBox{Day: p.day, Weight: span(at(tokens, 0), at(tokens, 1)), Seal: strings.Trim(tokens[2], "-"), Stamp: stamp}
	if box.Weight.Low > box.Weight.High || box.Weight.High > 50000 {
		return "", api.ErrRange
	}
	if len(p.boxes) == 6 {
		return "", api.ErrFull
	}
	desk := p.desk()
	desk.Boxes = append(slices.Clone(p.boxes), box)
	told, e := claim.Told(desk, len(p.boxes))
	if e != api.OK {
		return "", api.ErrClerkFalse
	}
	p.boxes = desk.Boxes
	return strconv.Itoa(told), api.OK
}

// text is numbers with blanks between them, or - if there are none.
func text(numbers ...int) string {
	if len(numbers) == 0 {
		return "-"
	}
	return strings.Trim(fmt.Sprint(numbers), "[]")
}

func (p *plain) ask(word string, tokens []string) (string, api.Errno) {
	switch word {
	case "today":
		return strconv.Itoa(p.day), api.OK
	case "price":
		return p.price(tokens)
	case "means":
		return p.means(at(tokens, 0))
	case "which", "told", "returned", "worth":
		return p.askBoxes(word, tokens)
	}
	who, e := find(p.Customers, tokens[0])
	if e != api.OK {
		return "", e
	}
	if word == "list" {
		return text(len(*p.list(who))) + " " + p.costs(who), api.OK
	}
	if word == "enough" {
		until := at(tokens, 1)
		if until < p.day || until > 4000 {
			return "", api.ErrRange
		}
		n, e := account.Enough(p.account(who), p.day, until)
		return text(n), e
	}
	return p.askAccount(word, p.account(who))
}

func (p *plain) askAccount(word string, file api.AccountFile) (string, api.Errno) {
	switch word {
	case "owes":
		n, e := account.Owes(file, p.day)
		return text(n), e
	case "due":
		n, e := account.Due(file, p.day)
		return text(n), e
	case "fees":
		n, e := account.Fees(file, p.day)
		return text(n), e
	case "next":
		day, cents, e := account.Next(file, p.day)
		if e != api.OK {
			return "", e
		}
		return text(day, cents), api.OK
	}
	all, e := account.Open(file, p.day)
	var list []int
	for _, o := range all {
		list = append(list, o.Order, o.Part, o.Due, o.Cents)
	}
	return text(list...), e
}

func (p *plain) price(tokens []string) (string, api.Errno) {
	good, e := find(p.Goods, tokens[0])
	if e != api.OK {
		return "", e
	}
	item := api.BookItem{Good: good, Size: at(tokens, 1), Colour: at(tokens, 2)}
	if item.Size < 1 || item.Size > 99 || item.Colour > 3 {
		return "", api.ErrRange
	}
	n, e := book.Price(p.Rack, p.day, item)
	if e != api.OK {
		return "", e
	}
	return text(n), api.OK
}

func (p *plain) means(number int) (string, api.Errno) {
	if number < 1 || number > 9999 {
		return "", api.ErrRange
	}
	all, e := book.Means(p.Rack, span(p.day, p.day), number)
	answer := ""
	for _, m := range all {
		answer += " " + p.Goods[m.Good]
	}
	if answer == "" {
		return "-", e
	}
	return answer[1:], e
}

func (p *plain) askBoxes(word string, tokens []string) (string, api.Errno) {
	switch word {
	case "returned":
		surely, perhaps, e := claim.Back(p.desk())
		return text(surely...) + " / " + text(perhaps...), e
	case "worth":
		worth, e := claim.Worth(p.desk())
		return text(worth.Low, worth.High), e
	}
	box := at(tokens, 0)
	if box >= len(p.boxes) {
		return "", api.ErrRange
	}
	if word == "told" {
		n, e := claim.Told(p.desk(), box)
		return text(n), e
	}
	list, e := claim.Which(p.desk(), box)
	return text(list...), e
}
