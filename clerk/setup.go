package clerk

import (
	"slices"
	"strings"

	"wishbook/account"
	"wishbook/api"
	"wishbook/book"
	"wishbook/claim"
	"wishbook/spans"
)

// The rows of limits.
const (
	ofCustomers = iota
	ofNames
	ofDigits
	ofSizes
	ofColours
	ofPieces
	ofNumbers
	ofParts
	ofCents
	ofWeights
	ofSeals
	ofValues
)

// limits is between what lies each number that is given, or how many things, bytes or digits there are.
var limits = [...]api.Span{
	ofCustomers: {Low: 1, High: api.ClerkCustomers},
	ofNames:     {Low: 1, High: api.MaxName},
	ofDigits:    {Low: 1, High: 7},
	ofSizes:     {Low: 1, High: api.BookSize},
	ofColours:   {Low: 0, High: api.BookColours - 1},
	ofPieces:    {Low: 1, High: api.BookMany},
	ofNumbers:   {Low: 1, High: api.BookNumber},
	ofParts:     {Low: 1, High: api.AccountParts},
	ofCents:     {Low: 1, High: api.AccountCents},
	ofWeights:   {Low: 0, High: api.ClaimWeight},
	ofSeals:     {Low: 0, High: api.ClaimSeal},
	ofValues:    {Low: 0, High: api.ClaimValue},
}

// setup is a setup that is given, or was copied.
type setup struct{ api.ClerkSetup }

func (s setup) isValid() bool {
	return book.Check(s.Rack) == api.OK &&
		areNames(spans.One(s.Rack.Goods), s.Goods) &&
		areNames(limits[ofCustomers], s.Customers) &&
		account.Check(s.file(nil)) == api.OK &&
		claim.Check(s.desk(nil, nil)) == api.OK
}

// areNames reports whether there are as many names as there can be, all different.
func areNames(many api.Span, list []string) bool {
	if !spans.Has(many, len(list)) {
		return false
	}
	for i, name := range list {
		if !isName(name) || slices.Contains(list[:i:i], name) {
			return false
		}
	}
	return true
}

func isName(text string) bool {
	if !spans.Has(limits[ofNames], len(text)) || !isLetter(text[0]) {
		return false
	}
	for i := range len(text) {
		if sign := text[i]; !isLetter(sign) && !isDigit(sign) && sign != '-' {
			return false
		}
	}
	return true
}

func isLetter(sign byte) bool { return 'a' <= sign && sign <= 'z' }

func isDigit(sign byte) bool { return '0' <= sign && sign <= '9' }

// file is the account of a customer with these events.
func (s setup) file(events []api.AccountEvent) api.AccountFile {
	return api.AccountFile{Rack: s.Rack, Grace: s.Grace, Fee: s.Fee, Events: events}
}

func (s setup) desk(parcels []api.ClaimParcel, boxes []api.ClaimBox) api.ClaimDesk {
	return api.ClaimDesk{Days: s.Days, Wear: s.Wear, Strange: s.Strange, Parcels: parcels, Boxes: boxes}
}

// copied returns a setup that shares no memory with this one.
func (s setup) copied() setup {
	s.Rack.Issues = copied(s.Rack.Issues, func(b *api.BookIssue) {
		b.Entries = copied(b.Entries, func(e *api.BookEntry) { e.Sizes = copied(e.Sizes) })
	})
	s.Goods = copied(s.Goods, copyText)
	s.Customers = copied(s.Customers, copyText)
	return s
}

func copyText(text *string) { *text = strings.Clone(*text) }

// copied copies a list. What the things on it share with those of the other one is copied as well, thing by thing.
func copied[T any](list []T, copyOf ...func(*T)) []T {
	list = slices.Clone(list)
	for i := range list {
		for _, do := range copyOf {
			do(&list[i])
		}
	}
	return list[:len(list):len(list)]
}
