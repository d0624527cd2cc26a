package clerk

import (
	"iter"
	"strings"

	"wishbook/api"
	"wishbook/claim"
	"wishbook/spans"
)

// What stands between tokens, behind lines of a file, and for nothing.
const (
	blank   = " "
	feed    = "\n"
	nothing = "-"
)

// job is what a line with some word does.
type job struct {
	form    string // a letter for each token behind the word, as in the document
	changes bool   // whether it is added to the journal
	do      func(*line) string
}

// jobs is the job of each word.
func jobs() map[string]job {
	return map[string]job{
		"day":     {"N", true, (*line).wait},
		"add":     {"CGNMO", true, (*line).add},
		"order":   {"CP", true, (*line).order},
		"paid":    {"CN", true, (*line).pay},
		"back":    {"CNMO", true, (*line).takeBack},
		"sent":    {"CNMO", true, (*line).send},
		"box":     {"LMS", true, (*line).box},
		"stamped": {"LMS", true, (*line).stamped},

		"price":    {"GNM", false, (*line).price},
		"means":    {"N", false, (*line).means},
		"list":     {"C", false, (*line).list},
		"owes":     {"C", false, (*line).owes},
		"due":      {"C", false, (*line).due},
		"fees":     {"C", false, (*line).fees},
		"open":     {"C", false, (*line).open},
		"next":     {"C", false, (*line).next},
		"enough":   {"CN", false, (*line).enough},
		"which":    {"N", false, (*line).which},
		"told":     {"N", false, (*line).told},
		"returned": {"", false, (*line).returned},
		"worth":    {"", false, (*line).worth},
		"today":    {"", false, (*line).today},
	}
}

// line is a line in work, and what the clerk has, which it may change.
type line struct {
	season
	job
	text   map[byte]string // of the letters C, G and S
	number map[byte]int    // of all other letters
}

// must leaves the line with an error unless something is so.
func must(is bool, e api.Errno) {
	if !is {
		panic(e)
	}
}

// sure returns what a layer below tells, or leaves the line with its error.
func sure[T any](told T, e api.Errno) T {
	must(e == api.OK, e)
	return told
}

// read returns what a line says, or leaves it if it does not have the form.
func read(text string) line {
	must(len(text) <= api.ClerkLine, api.ErrClerkLine)
	var tokens []string
	for token := range parts(text+blank, blank) {
		must(token != "", api.ErrClerkLine)
		tokens = append(tokens, token)
	}
	meant, ok := jobs()[tokens[0]]
	must(ok && len(tokens) == 1+len(meant.form), api.ErrClerkLine)
	l := line{job: meant, text: map[byte]string{}, number: map[byte]int{}}
	for i, token := range tokens[1:] {
		must(l.take(l.form[i], token), api.ErrClerkLine)
	}
	return l
}

// asks reports whether a line has a word that asks.
func asks(text string) bool {
	word, _, _ := strings.Cut(text, blank)
	meant, ok := jobs()[word]
	return ok && !meant.changes
}

// parts produces all parts of a text behind each of which a mark stands.
func parts(text, mark string) iter.Seq[string] {
	return func(yield func(string) bool) {
		rest := text
		for {
			part, behind, ok := strings.Cut(rest, mark)
			if !ok || !yield(part) {
				return
			}
			rest = behind
		}
	}
}

// take keeps the token that a letter stands for, if it is one that it can stand for.
func (l *line) take(letter byte, token string) bool {
	ok := true
	switch letter {
	case 'C', 'G':
		l.text[letter] = token
	case 'S':
		l.text[letter], ok = sealOf(token)
	default:
		l.number[letter], ok = numberOf(token)
	}
	return ok
}

func numberOf(token string) (int, bool) {
	if !spans.Has(limits[ofDigits], len(token)) || token[0] == '0' && token != "0" {
		return 0, false
	}
	n := 0
	for i := range len(token) {
		if !isDigit(token[i]) {
			return 0, false
		}
		n = 10*n + int(token[i]-'0')
	}
	return n, true
}

// sealOf returns what can be read of a seal, if a token is one: something, which a box can have, or nothing.
func sealOf(token string) (string, bool) {
	if token == nothing {
		return "", true
	}
	isSeal := claim.Check(api.ClaimDesk{Boxes: []api.ClaimBox{{Seal: token}}}) == api.OK
	return token, isSeal
}

func (l *line) customer() int { return whoOf(l.setup.Customers)(l.text['C']) }

func (l *line) good() int { return whoOf(l.setup.Goods)(l.text['G']) }

// whoOf returns what tells which one of some names is meant, or leaves the line if none is.
func whoOf(names []string) func(string) int {
	return func(meant string) int {
	names:
		for i, name := range names {
			if name != meant {
				continue names
			}
			return i
		}
		panic(api.ErrClerkUnknown)
	}
}

// item returns the item that is meant, or leaves the line if it is none.
func (l *line) item() api.BookItem {
	item := itemOf(l.good(), l.number['N'], l.number['M'])
	must(item != (api.BookItem{}), api.ErrRange)
	return item
}

// itemOf returns an item, or the one with nothing but zeros, which is none, as no size is 0.
func itemOf(good, size, colour int) api.BookItem {
	if !spans.Has(limits[ofSizes], size) || !spans.Has(limits[ofColours], colour) {
		return api.BookItem{}
	}
	return api.BookItem{Good: good, Size: size, Colour: colour}
}

func (l *line) account() api.AccountFile { return l.setup.file(l.events[l.customer()]) }

func (l *line) desk() api.ClaimDesk { return l.setup.desk(l.parcels, l.boxes) }

// isAhead reports whether a day is today, or can come.
func (l *line) isAhead(day int) bool {
	return spans.Has(api.Span{Low: l.day, High: api.AccountDay}, day)
}
