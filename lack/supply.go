package lack

import (
	"slices"

	"wishbook/api"
	"wishbook/spans"
)

// supply is a delivery that is asked about.
type supply struct {
	book
	delivery int
}

func (s supply) isThere() bool { return spans.Has(spans.Below(len(s.Deliveries)), s.delivery) }

func (s supply) good() int { return s.Deliveries[s.delivery].Good }

// late returns by how many days the delivery can be later.
func (s supply) late(all served) int {
	return greatest(api.LackDays, delay{s, all.listed(s.good())}.canBeKept)
}

// delay is a delivery that may be later, and who waits for its good.
type delay struct {
	supply
	list []waiting
}

// canBeKept reports whether the list can be kept if the delivery is later by so many days.
func (d delay) canBeKept(days int) bool {
	good := d.good()
	d.Deliveries = slices.Clone(d.Deliveries)
	later := &d.Deliveries[d.delivery].Days
	*later = spans.Add(*later, spans.One(days))
	return d.keeps(good, d.list)
}

// broken returns the lines whose list cannot be kept, with those before them, if the delivery never comes.
func (s supply) broken(all served) []int {
	good := s.good()
	without := s.book
	without.Deliveries = slices.Delete(slices.Clone(s.Deliveries), s.delivery, s.delivery+1)
	var broken []int
	list := all.listed(good)
	for i, w := range list {
		if !without.keeps(good, list[:i+1:i+1]) {
			broken = append(broken, w.line)
		}
	}
	return broken[:len(broken):len(broken)]
}
