package lack

import (
	"iter"
	"slices"

	"wishbook/api"
	"wishbook/lists"
	"wishbook/spans"
)

// counts is how many pieces there are of each good.
type counts [api.LackGoods]int

// served is the first lines of a book, when they are served.
type served struct {
	book
	left   counts // in stock
	shares []api.LackShare
}

// serve serves all lines, one after the other.
func (b book) serve() served {
	var serve func(s served) served
	serve = func(s served) served {
		if len(s.shares) == len(s.Lines) {
			return s
		}
		return serve(s.next())
	}
	unserved := served{book: b}
	copy(unserved.left[:], b.Stock)
	return serve(unserved)
}

// What can become of a piece that is not refused.
const (
	bySending = iota
	byReplacing
	byListing
)

// ways is what is tried for the pieces of a line that are wanting still, one after the other, and with how many of them it can be done.
func ways() [3]func(*served, api.LackLine, int) int {
	return [...]func(*served, api.LackLine, int) int{bySending: (*served).send, byReplacing: (*served).replace, byListing: (*served).list}
}

// next returns what is served with one line more.
func (s served) next() served {
	line := s.Lines[len(s.shares)]
	wanting := line.Many
	var done [3]int
	for way, do := range ways() {
		done[way] = do(&s, line, wanting)
		wanting -= done[way]
	}
	s.shares = append(s.shares, api.LackShare{Sent: done[bySending], Instead: done[byReplacing], Listed: done[byListing], Refused: wanting})
	return s
}

func (s *served) send(line api.LackLine, wanting int) int { return s.take(line.Good, wanting) }

func (s *served) replace(line api.LackLine, wanting int) int { return s.take(line.Instead, wanting) }

// take takes pieces of a good out of the stock, at most so many, and returns how many there were.
func (s *served) take(good, wanting int) int {
	if good == none || s.left == (counts{}) {
		return 0
	}
	taken := spans.Least(wanting, s.left[good])
	s.left[good] -= taken
	return taken
}

func (s *served) list(line api.LackLine, wanting int) int {
	return greatest(wanting, listing{*s, line}.canBeKept)
}

// greatest returns the greatest number, at most the given one, that can be. 0 always can.
func greatest(most int, can func(n int) bool) int {
	n := most
	for n > 0 && !can(n) {
		n--
	}
	return n
}

// listing is a line that may be listed behind those that are served.
type listing struct {
	served
	line api.LackLine
}

// canBeKept reports whether the list of the good can be kept with so many pieces of the line.
func (l listing) canBeKept(many int) bool {
	line := waiting{dueOf(l.line), len(l.shares), many}
	return l.keeps(l.line.Good, append(l.listed(l.line.Good), line))
}

// waiting is a line that is listed, with how many pieces, and when they are due.
type waiting struct {
	date
	line, many int
}

func (w waiting) pieces() int { return w.many }

// dueOf returns of what a line wants all pieces, and until when.
func dueOf(l api.LackLine) date { return date{l.Good, l.Until} }

// waits produces all lines that are listed.
func (s served) waits() iter.Seq[waiting] {
	return func(yield func(waiting) bool) {
	lines:
		for line, share := range s.shares {
			if share.Listed == 0 {
				continue lines
			}
			if !yield(waiting{dueOf(s.Lines[line]), line, share.Listed}) {
				return
			}
		}
	}
}

// listed returns all lines that are listed of a good.
func (s served) listed(good int) []waiting {
	var list []waiting
	for w := range s.waits() {
		if w.good == good {
			list = append(list, w)
		}
	}
	return list[:len(list):len(list)]
}

func (s served) all() []api.LackShare { return s.shares[:len(s.shares):len(s.shares)] }

func (s served) inStock() []int { return s.ofGoods(s.left) }

// ofGoods returns how many pieces there are of each good of the book.
func (b book) ofGoods(c counts) []int {
	many := len(b.Stock)
	return slices.Clone(c[:many:many])
}

// missing is how many pieces of each good are listed, and refused.
type missing struct{ listed, refused []int }

func (s served) missing() missing {
	var listed, refused counts
	for line, share := range s.shares {
		good := s.Lines[line].Good
		listed[good] += share.Listed
		refused[good] += share.Refused
	}
	return missing{s.ofGoods(listed), s.ofGoods(refused)}
}

// whole returns the orders of which all pieces are sent, or others instead.
func (s served) whole() []int {
	var isThere, lacks, isWhole [lastOrder + 1]bool
	for line, share := range s.shares {
		order := s.Lines[line].Order
		isThere[order] = true
		lacks[order] = lacks[order] || share.Listed+share.Refused > 0
	}
	for order := range isWhole {
		isWhole[order] = isThere[order] && !lacks[order]
	}
	return lists.Where(isWhole[:])
}
