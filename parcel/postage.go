package parcel

import (
	"wishbook/api"
	"wishbook/lists"
	"wishbook/spans"
)

// posting is a parcel that is sent to a zone.
type posting struct {
	bundle
	api.ParcelKind
	zone int
}

// postage returns what a parcel costs in a zone.
func (b book) postage(l load, zone int) int {
	p := posting{b.bundle(l.set), b.Kinds[l.kind], zone}
	return lists.Sum(func(part func(posting) int) int { return part(p) }, parts()...)
}

// parts is what a postage is put together from.
func parts() []func(posting) int {
	return []func(posting) int{posting.forKind, posting.forWeight, posting.forWorth}
}

func (p posting) forKind() int { return p.Zones[p.zone] }

func (p posting) forWeight() int { return p.Step * (begun(p.sum(weight), p.Grams) - 1) }

func (p posting) forWorth() int { return p.Fee * begun(spans.Greatest(0, p.sum(worth)-p.Free), p.Unit) }

// begun returns how many steps there are in all, with the one that is only begun.
func begun(all, step int) int { return (all + step - 1) / step }
