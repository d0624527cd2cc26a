package shelf_test

import (
	"slices"

	"wishbook/api"
	"wishbook/spans"
)

// row is the stock of a shelf at the end of each day.
type row [api.ShelfDays]int

// truth is what the definitions call one, and what follows from it; but counts of it can be false.
type truth struct {
	days, moved []int
	stocks      [api.ShelfShelves]row
	wrong       []int
}

// unknown is all that a truth tells, and between what lies each number: how many pieces were on the shelves at first, when the deliveries came, how many pieces they were, and how many pieces the moves were.
func unknown(b api.ShelfBook) []api.Span {
	var list []api.Span
	for _, s := range b.Shelves {
		list = append(list, s.Begin)
	}
	for _, d := range b.Deliveries {
		list = append(list, d.Days)
	}
	for _, d := range b.Deliveries {
		list = append(list, d.By)
	}
	for _, m := range b.Moves {
		list = append(list, m.By)
	}
	return list
}

// happen lets happen what a truth tells, word by word; false, if somewhere there are fewer than 0 pieces, or more than have room.
func happen(b api.ShelfBook, numbers []int) (truth, bool) {
	shelves, deliveries := len(b.Shelves), len(b.Deliveries)
	now, rest := slices.Clone(numbers[:shelves]), numbers[shelves:]
	days, brought, moved := rest[:deliveries], rest[deliveries:2*deliveries], rest[2*deliveries:]
	isThere := true
	change := func(shelf, many int) {
		now[shelf] += many
		isThere = isThere && 0 <= now[shelf] && now[shelf] <= b.Shelves[shelf].Room
	}
	t := truth{days: days, moved: moved}
	for day := range b.Days {
		for i, d := range b.Deliveries {
			if days[i] == day {
				change(d.Shelf, brought[i])
			}
		}
		for i, m := range b.Moves {
			switch {
			case m.Day == day && m.Back:
				change(m.Shelf, moved[i])
			case m.Day == day:
				change(m.Shelf, -moved[i])
			}
		}
		for s, many := range now {
			t.stocks[s][day] = many
		}
	}
	for i, c := range b.Counts {
		if off := t.stocks[c.Shelf][c.Day] - c.Read; off > c.Err || -off > c.Err {
			t.wrong = append(t.wrong, i)
		}
	}
	return t, isThere
}

// eachTruth does something with all truths that a book would have without its counts.
func eachTruth(b api.ShelfBook, do func(t truth)) {
	between := unknown(b)
	numbers := make([]int, len(between))
	var choose func(i int)
	choose = func(i int) {
		if i == len(between) {
			if t, ok := happen(b, numbers); ok {
				do(t)
			}
			return
		}
		for n := between[i].Low; n <= between[i].High; n++ {
			numbers[i] = n
			choose(i + 1)
		}
	}
	choose(0)
}

// stocks is which numbers of pieces can be on which shelf on which day.
type stocks [api.ShelfShelves][api.ShelfDays][api.ShelfRoom + 1]bool

// told is what all truths of a book tell.
type told struct {
	isTrue bool
	stocks stocks
	pasts  [api.ShelfShelves]map[row]bool
	due    [api.ShelfDeliveries][api.ShelfDays]bool
	taken  [api.ShelfMoves]api.Span
}

func (x *told) add(b api.ShelfBook, t truth) {
	for s := range b.Shelves {
		for day := range b.Days {
			x.stocks[s][day][t.stocks[s][day]] = true
		}
		if x.pasts[s] == nil {
			x.pasts[s] = map[row]bool{}
		}
		x.pasts[s][t.stocks[s]] = true
	}
	for i, day := range t.days {
		x.due[i][day] = true
	}
	for i, many := range t.moved {
		if !x.isTrue {
			x.taken[i] = spans.One(many)
		}
		x.taken[i] = spans.Join(x.taken[i], spans.One(many))
	}
	x.isTrue = true
}

// judged is what is told of a book, and of its counts: which must be false (if it can be true without any), and which are idle.
type judged struct {
	told
	isEver      bool
	wrong, idle []int
}

// plain goes through all truths of a book.
func plain(b api.ShelfBook) judged {
	var j judged
	without := make([]told, len(b.Counts))
	eachTruth(b, func(t truth) {
		if !j.isEver || len(t.wrong) < len(j.wrong) || len(t.wrong) == len(j.wrong) && slices.Compare(t.wrong, j.wrong) < 0 {
			j.wrong, j.isEver = t.wrong, true
		}
		if len(t.wrong) == 0 {
			j.add(b, t)
		}
		for i := range without {
			if len(t.wrong) == 0 || slices.Equal(t.wrong, []int{i}) {
				without[i].add(b, t)
			}
		}
	})
	for i := range without {
		if without[i].stocks == j.stocks {
			j.idle = append(j.idle, i)
		}
	}
	return j
}

// Another way, for books of any size: if it is known on which days the deliveries of a shelf came, what can be there is a span at any time.

// step is by how many pieces something changes what is there, and between what lies what is there then.
type step struct {
	by, then  api.Span
	day, move int // the move is -1 if it is none
	isEvening bool
}

// stepsOf returns all that happens on a shelf; with a step that changes nothing at the end of each day.
func stepsOf(b api.ShelfBook, s int, days []int) []step {
	var list []step
	room := span(0, b.Shelves[s].Room)
	for day := range b.Days {
		for i, d := range b.Deliveries {
			if d.Shelf == s && days[i] == day {
				list = append(list, step{d.By, room, day, -1, false})
			}
		}
		for i, m := range b.Moves {
			by := m.By
			if !m.Back {
				by = span(-by.High, -by.Low)
			}
			if m.Shelf == s && m.Day == day {
				list = append(list, step{by, room, day, i, false})
			}
		}
		evening := step{span(0, 0), room, day, -1, true}
		for _, c := range b.Counts {
			if c.Shelf == s && c.Day == day {
				evening.then = meet(evening.then, span(c.Read-c.Err, c.Read+c.Err))
			}
		}
		list = append(list, evening)
	}
	return list
}

// meet is what two spans have in common; nothing, if its Low is above its High.
func meet(one, other api.Span) api.Span {
	return span(max(one.Low, other.Low), min(one.High, other.High))
}

// follow adds what can be on a shelf, if its deliveries came on these days, and reports whether that can be.
func (x *told) follow(b api.ShelfBook, s int, days []int) bool {
	steps := stepsOf(b, s, days)
	forth := []api.Span{b.Shelves[s].Begin}
	for _, p := range steps {
		next := meet(spans.Add(forth[len(forth)-1], p.by), p.then)
		if next.Low > next.High {
			return false
		}
		forth = append(forth, next)
	}
	behind := forth[len(steps)]
	for i, p := range slices.Backward(steps) {
		for n := behind.Low; p.isEvening && n <= behind.High; n++ {
			x.stocks[s][p.day][n] = true
		}
		if p.move >= 0 {
			by := meet(p.by, span(behind.Low-forth[i].High, behind.High-forth[i].Low))
			if !b.Moves[p.move].Back {
				by = span(-by.High, -by.Low)
			}
			x.taken[p.move] = spans.Join(x.taken[p.move], by)
		}
		behind = meet(forth[i], span(behind.Low-p.by.High, behind.High-p.by.Low))
	}
	return true
}

// large tells the same as plain, but for pasts and counts.
func large(b api.ShelfBook) told {
	x := told{isTrue: true}
	for i := range b.Moves {
		x.taken[i] = span(api.ShelfRoom, 0)
	}
	for s := range b.Shelves {
		isTrue := false
		eachDays(b, s, func(days []int) {
			if !x.follow(b, s, days) {
				return
			}
			isTrue = true
			for i, d := range b.Deliveries {
				if d.Shelf == s {
					x.due[i][days[i]] = true
				}
			}
		})
		x.isTrue = x.isTrue && isTrue
	}
	return x
}

// eachDays does something with all days on which the deliveries of a shelf can come.
func eachDays(b api.ShelfBook, s int, do func(days []int)) {
	days := make([]int, len(b.Deliveries))
	var choose func(i int)
	choose = func(i int) {
		if i == len(days) {
			do(days)
			return
		}
		d := b.Deliveries[i]
		if d.Shelf != s {
			choose(i + 1)
			return
		}
		for day := d.Days.Low; day <= d.Days.High; day++ {
			days[i] = day
			choose(i + 1)
		}
	}
	choose(0)
}
