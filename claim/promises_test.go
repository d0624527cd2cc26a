package claim_test

import (
	"slices"
	"testing"

	"wishbook/api"
	"wishbook/claim"
)

const (
	isStrange = api.ClaimStrange
	isOurs    = api.ClaimOurs
	isOpen    = api.ClaimOpen
)

// question is what is asked about a desk.
type question struct {
	box, parcel int
	parcels     []int
}

// answers are what all functions return of a desk.
type answers struct {
	check                                api.Errno
	could, isTruth                       bool
	truth, which, surely, perhaps, wrong []int
	told, fewest                         int
	worth                                api.Span
	errnos                               errnos
}

// errnos are the errors of all functions but Check.
type errnos struct{ could, isTruth, truth, which, told, back, fewest, wrong, worth api.Errno }

func askAll(d api.ClaimDesk, q question) answers {
	var a answers
	a.check = claim.Check(d)
	a.could, a.errnos.could = claim.Could(d, q.box, q.parcel)
	a.isTruth, a.errnos.isTruth = claim.IsTruth(d, q.parcels)
	a.truth, a.errnos.truth = claim.Truth(d)
	a.which, a.errnos.which = claim.Which(d, q.box)
	a.told, a.errnos.told = claim.Told(d, q.box)
	a.surely, a.perhaps, a.errnos.back = claim.Back(d)
	a.fewest, a.errnos.fewest = claim.Fewest(d)
	a.wrong, a.errnos.wrong = claim.Wrong(d)
	a.worth, a.errnos.worth = claim.Worth(d)
	return a
}

// areZero reports whether with each error the other results are zero.
func (a answers) areZero() bool {
	e := a.errnos
	return (e.could == api.OK || !a.could) && (e.isTruth == api.OK || !a.isTruth) && (e.truth == api.OK || len(a.truth) == 0) &&
		(e.which == api.OK || len(a.which) == 0) && (e.told == api.OK || a.told == 0) && (e.back == api.OK || len(a.surely)+len(a.perhaps) == 0) &&
		(e.fewest == api.OK || a.fewest == 0) && (e.wrong == api.OK || len(a.wrong) == 0) && (e.worth == api.OK || a.worth == api.Span{})
}

// change makes another desk of the example.
type change struct {
	name string
	do   func(d *api.ClaimDesk)
}

func changed(do func(d *api.ClaimDesk)) api.ClaimDesk {
	d := example()
	do(&d)
	return d
}

func sent(i int, p api.ClaimParcel) func(d *api.ClaimDesk) {
	return func(d *api.ClaimDesk) { d.Parcels[i] = p }
}

func came(i int, b api.ClaimBox) func(d *api.ClaimDesk) {
	return func(d *api.ClaimDesk) { d.Boxes[i] = b }
}

func terms(low, high int) func(d *api.ClaimDesk) {
	return func(d *api.ClaimDesk) { d.Days = span(low, high) }
}

func wear(grams int) func(d *api.ClaimDesk) {
	return func(d *api.ClaimDesk) { d.Wear = grams }
}

func strange(many int) func(d *api.ClaimDesk) {
	return func(d *api.ClaimDesk) { d.Strange = many }
}

func read(seal string) func(d *api.ClaimDesk) {
	return func(d *api.ClaimDesk) { d.Boxes[2].Seal = seal }
}

func wrongDesks() []change {
	return []change{
		{"days from -1 on", terms(-1, 60)},
		{"days up to 401", terms(3, 401)},
		{"no days", terms(4, 3)},
		{"days below 0 alone", terms(-2, -1)},
		{"a wear of -1", wear(-1)},
		{"a wear of 5001", wear(5001)},
		{"-1 strange boxes", strange(-1)},
		{"7 strange boxes", strange(7)},
		{"9 parcels", func(d *api.ClaimDesk) { *d = loose(0, 9, 0) }},
		{"a parcel on the day -1", sent(0, parcel(-1, 1500, 417, 900))},
		{"a parcel on the day 4001", sent(2, parcel(4001, 900, 52, 500))},
		{"a parcel of -1 grams", sent(0, parcel(100, -1, 417, 900))},
		{"a parcel of 50001 grams", sent(1, parcel(100, 50001, 447, 300))},
		{"the seal -1", sent(0, parcel(100, 1500, -1, 900))},
		{"the seal 10000", sent(2, parcel(130, 900, 10000, 500))},
		{"a parcel worth -1", sent(0, parcel(100, 1500, 417, -1))},
		{"a parcel worth 100001", sent(1, parcel(100, 1600, 447, 100001))},
		{"7 boxes", func(d *api.ClaimDesk) { *d = loose(6, 8, 7) }},
		{"a box on the day -1", came(0, box(-1, 1400, 1450, "04?7"))},
		{"a box on the day 4001", came(2, box(4001, 700, 720, "0?52"))},
		{"a box of -1 grams", came(0, box(120, -1, 1450, "04?7"))},
		{"a box of 50001 grams", came(1, box(150, 1550, 50001, ""))},
		{"a box of no weight", came(2, box(135, 721, 720, "0?52"))},
	}
}

func wrongSeals() []change {
	var list []change
	for _, seal := range []string{"?", "052", "00052", "?????", " ", "    ", " 052", "005/", "005:", "/052", ":052", "0*52", "00x2", "-052", "+052", "0x52", "005\x00", "0\xff52", "05²", "0é5", "005\n", "????\n", "0052 ", "¿?52"} {
		list = append(list, change{"the seal " + seal, read(seal)})
	}
	return list
}

func rightDesks() []change {
	list := []change{
		{"the example", func(d *api.ClaimDesk) {}},
		{"nothing", func(d *api.ClaimDesk) { *d = api.ClaimDesk{} }},
		{"the largest", func(d *api.ClaimDesk) { *d = largest() }},
		{"no parcels", func(d *api.ClaimDesk) { d.Parcels = nil }},
		{"no boxes", func(d *api.ClaimDesk) { d.Boxes = nil }},
		{"the first day only", terms(0, 0)},
		{"the last day only", terms(400, 400)},
		{"no wear", wear(0)},
		{"the greatest wear", wear(5000)},
		{"no strange boxes", strange(0)},
		{"6 strange boxes", strange(6)},
		{"the least parcel", sent(0, parcel(0, 0, 0, 0))},
		{"the greatest parcel", sent(2, parcel(4000, 50000, 9999, 100000))},
		{"the least box", came(0, box(0, 0, 0, "0000"))},
		{"the greatest box", came(2, box(4000, 50000, 50000, "9999"))},
		{"a box of any weight", came(1, stamped(box(0, 0, 50000, "????")))},
		{"two parcels of one seal", sent(1, parcel(100, 1600, 417, 300))},
	}
	for _, seal := range []string{"", "????", "0123", "4567", "8989", "?9?0", "9??9"} {
		list = append(list, change{"the seal " + seal, read(seal)})
	}
	return list
}

// P9.1: which desks are valid, and that this error is the first one.
func TestP9_1Check(t *testing.T) {
	const e = api.ErrClaim
	for _, c := range slices.Concat(wrongDesks(), wrongSeals()) {
		d := changed(c.do)
		for _, q := range []question{{0, 0, list(0, 1, 2)}, {-1, 9, nil}, {9, -1, list(9)}} {
			if a := askAll(d, q); a.check != e || a.errnos != (errnos{e, e, e, e, e, e, e, e, e}) || !a.areZero() {
				t.Errorf("%s: %v", c.name, a)
			}
		}
	}
	const ask = api.ErrClaimAsk
	for _, c := range rightDesks() {
		d := changed(c.do)
		a := askAll(d, question{len(d.Boxes), len(d.Parcels), nil})
		e := a.errnos
		if a.check != api.OK || e.could != ask || e.isTruth != api.OK || e.truth == api.ErrClaim || e.which != ask || e.told != ask || e.fewest == api.ErrClaim || !a.areZero() {
			t.Errorf("%s: %v", c.name, a)
		}
	}
}

// P9.1, P9.2: what can be asked about: a box, and a parcel.
func TestP9_1Asked(t *testing.T) {
	four := changed(func(d *api.ClaimDesk) { d.Parcels = append(d.Parcels, parcel(0, 0, 0, 0)) })
	for number := -2; number < 8; number++ {
		for other := -2; other < 8; other++ {
			want := api.ErrClaimAsk
			if 0 <= number && number < 3 && 0 <= other && other < 4 {
				want = api.OK
			}
			if could, e := claim.Could(four, number, other); e != want || want != api.OK && could {
				t.Errorf("Could of %d and %d: %v, %d, not %d", number, other, could, e, want)
			}
		}
		want := api.ErrClaimAsk
		if 0 <= number && number < 3 {
			want = api.OK
		}
		which, e := claim.Which(four, number)
		told, f := claim.Told(four, number)
		if e != want || f != want || want != api.OK && (len(which) > 0 || told != 0) {
			t.Errorf("of the box %d: %v, %d, %d, %d, not %d", number, which, e, told, f, want)
		}
	}
}

// P9.1: which box can be which parcel in the example.
func TestP9_1Could(t *testing.T) {
	for b, row := range [][]bool{{true, true, false}, {false, true, false}, {false, false, true}} {
		for p, want := range row {
			if got, e := claim.Could(example(), b, p); got != want || e != api.OK {
				t.Errorf("Could of %d and %d: %v, %d", b, p, got, e)
			}
		}
	}
}

// P9.1: the day, the weight and the seal of a box, just so that it can be the parcel, and just not.
func TestP9_1Marks(t *testing.T) {
	p := parcel(100, 1500, 417, 900)
	light := parcel(100, 150, 417, 900)
	for _, x := range []struct {
		name string
		p    api.ClaimParcel
		b    api.ClaimBox
		want bool
	}{
		{"in time, as heavy, and sealed so", p, box(120, 1500, 1500, "0417"), true},
		{"after the least number of days", p, box(103, 1500, 1500, ""), true},
		{"a day sooner", p, box(102, 1500, 1500, ""), false},
		{"on the day itself", p, box(100, 1500, 1500, ""), false},
		{"before it was sent", p, box(97, 1500, 1500, ""), false},
		{"after the greatest number of days", p, box(160, 1500, 1500, ""), true},
		{"a day later", p, box(161, 1500, 1500, ""), false},
		{"a gram heavier", p, box(120, 1501, 1501, ""), false},
		{"at least as heavy", p, box(120, 1500, 2000, ""), true},
		{"at least a gram heavier", p, box(120, 1501, 2000, ""), false},
		{"as worn as it can be", p, box(120, 1300, 1300, ""), true},
		{"a gram lighter", p, box(120, 1299, 1299, ""), false},
		{"at most as worn", p, box(120, 1000, 1300, ""), true},
		{"at most a gram lighter", p, box(120, 1000, 1299, ""), false},
		{"in between", p, box(120, 1400, 1401, ""), true},
		{"any weight", p, box(120, 0, 50000, ""), true},
		{"worn wholly", light, box(120, 0, 0, ""), true},
		{"light, and heavier", light, box(120, 151, 200, ""), false},
		{"light, and as heavy", light, box(120, 150, 200, ""), true},
		{"no digit", p, box(120, 1500, 1500, "????"), true},
		{"the first digit", p, box(120, 1500, 1500, "0???"), true},
		{"another first digit", p, box(120, 1500, 1500, "1???"), false},
		{"the second digit", p, box(120, 1500, 1500, "?4??"), true},
		{"another second digit", p, box(120, 1500, 1500, "?5??"), false},
		{"the third digit", p, box(120, 1500, 1500, "??1?"), true},
		{"another third digit", p, box(120, 1500, 1500, "??7?"), false},
		{"the last digit", p, box(120, 1500, 1500, "???7"), true},
		{"another last digit", p, box(120, 1500, 1500, "???1"), false},
		{"one of four is another one", p, box(120, 1500, 1500, "0477"), false},
		{"without zeros ahead", p, box(120, 1500, 1500, "417?"), false},
		{"the seal 0", parcel(100, 1500, 0, 900), box(120, 1500, 1500, "0000"), true},
		{"another one than 0", parcel(100, 1500, 0, 900), box(120, 1500, 1500, "0001"), false},
		{"the seal 9999", parcel(100, 1500, 9999, 900), box(120, 1500, 1500, "9999"), true},
		{"another one than 9999", parcel(100, 1500, 9999, 900), box(120, 1500, 1500, "9998"), false},
		{"the seal 1023", parcel(100, 1500, 1023, 900), box(120, 1500, 1500, "1023"), true},
		{"the other way around", parcel(100, 1500, 1023, 900), box(120, 1500, 1500, "3201"), false},
		{"a stamp", p, stamped(box(120, 1500, 1500, "0417")), true},
		{"a stamp, but another seal", p, stamped(box(120, 1500, 1500, "0418")), false},
	} {
		d := changed(sent(0, x.p))
		d.Boxes[0] = x.b
		if got, e := claim.Could(d, 0, 0); got != x.want || e != api.OK {
			t.Errorf("%s: %v, %d", x.name, got, e)
		}
	}
	for _, do := range []func(d *api.ClaimDesk){terms(20, 20), terms(0, 400), wear(0), wear(5000)} {
		d := changed(do)
		d.Boxes[0] = box(120, 1500, 1500, "0417")
		if got, e := claim.Could(d, 0, 0); !got || e != api.OK {
			t.Errorf("of %v: %v, %d", d, got, e)
		}
	}
	worn := changed(wear(0))
	worn.Boxes[0] = box(120, 1400, 1499, "0417")
	if got, e := claim.Could(worn, 0, 0); got || e != api.OK {
		t.Errorf("worn, where nothing wears: %v, %d", got, e)
	}
}

// P9.1: what is a truth.
func TestP9_1IsTruth(t *testing.T) {
	for _, x := range []struct {
		name    string
		d       api.ClaimDesk
		parcels []int
		want    bool
	}{
		{"0 1 2", example(), list(0, 1, 2), true},
		{"-1 1 2", example(), list(-1, 1, 2), true},
		{"0 1 -1", example(), list(0, 1, -1), true},
		{"-1 1 -1: too many", example(), list(-1, 1, -1), false},
		{"-1 1 -1: as many as can be", changed(strange(2)), list(-1, 1, -1), true},
		{"-1 1 2: none can be", changed(strange(0)), list(-1, 1, 2), false},
		{"1 0 2: it cannot be 0", example(), list(1, 0, 2), false},
		{"1 1 2: twice", example(), list(1, 1, 2), false},
		{"a box with a stamp is strange", example(), list(0, -1, 2), false},
		{"without the stamp it can be", stamps(example()), list(0, -1, 2), true},
		{"a parcel too many", example(), list(0, 1, 3), false},
		{"a parcel below -1", example(), list(-2, 1, 2), false},
		{"a box too few", example(), list(0, 1), false},
		{"a box too many", example(), list(0, 1, 2, -1), false},
		{"nothing", example(), nil, false},
		{"nothing of nothing", api.ClaimDesk{}, nil, true},
		{"an empty list of nothing", api.ClaimDesk{}, list(), true},
		{"a box of nothing", api.ClaimDesk{}, list(-1), false},
		{"a strange box of nothing", changed(func(d *api.ClaimDesk) { d.Boxes = nil }), list(-1), false},
		{"no parcels", loose(2, 0, 2), list(-1, -1), true},
		{"no parcels, but one is said", loose(2, 0, 2), list(-1, 0), false},
		{"any order", loose(0, 3, 3), list(2, 0, 1), true},
		{"the first one again", loose(6, 3, 3), list(0, 1, 0), false},
		{"the last two alike", loose(6, 8, 6), list(5, 4, 3, 2, 7, 7), false},
		{"all of them", loose(0, 8, 6), list(7, 6, 5, 4, 3, 2), true},
		{"all strange", loose(6, 8, 6), list(-1, -1, -1, -1, -1, -1), true},
		{"one too many strange", loose(5, 8, 6), list(-1, -1, -1, -1, -1, -1), false},
	} {
		if got, e := claim.IsTruth(x.d, x.parcels); got != x.want || e != api.OK {
			t.Errorf("%s: %v, %d", x.name, got, e)
		}
	}
}

// told is what is told of a desk in which what was seen can be true.
type told struct {
	name            string
	d               api.ClaimDesk
	which           [][]int
	told            []int
	surely, perhaps []int
	worth           api.Span
}

func allTold() []told {
	none := changed(strange(0))
	one, two := list(11), list(11, 12)
	return []told{
		{"the example", example(), lists(list(0), list(1), list(2)), list(isOpen, isOurs, isOpen), list(1), list(0, 2), span(800, 1700)},
		{"the example, none strange", none, lists(list(0), list(1), list(2)), list(isOurs, isOurs, isOurs), list(0, 1, 2), nil, span(1700, 1700)},
		{"the example, two strange", changed(strange(2)), lists(list(0), list(1), list(2)), list(isOpen, isOurs, isOpen), list(1), list(0, 2), span(300, 1700)},
		{"the example, without a stamp", stamps(example()), lists(list(0, 1), list(1), list(2)), list(isOpen, isOpen, isOpen), nil, list(0, 1, 2), span(800, 1700)},
		{"nothing", api.ClaimDesk{}, nil, nil, nil, nil, span(0, 0)},
		{"no boxes", loose(3, 8, 0), nil, nil, nil, nil, span(0, 0)},
		{"no parcels", loose(2, 0, 2), lists(nil, nil), list(isStrange, isStrange), nil, nil, span(0, 0)},
		{"two boxes, one parcel", loose(1, 1, 2), lists(list(0), list(0)), list(isOpen, isOpen), list(0), nil, span(1, 1)},
		{"two boxes, one parcel, both can be strange", loose(2, 1, 2), lists(list(0), list(0)), list(isOpen, isOpen), nil, list(0), span(0, 1)},
		{"two boxes, one parcel, one with a stamp", stamps(loose(1, 1, 2), 1), lists(nil, list(0)), list(isStrange, isOurs), list(0), nil, span(1, 1)},
		{"two boxes, two parcels", loose(0, 2, 2), lists(list(0, 1), list(0, 1)), list(isOurs, isOurs), list(0, 1), nil, span(3, 3)},
		{"two boxes, three parcels", loose(0, 3, 2), lists(list(0, 1, 2), list(0, 1, 2)), list(isOurs, isOurs), nil, list(0, 1, 2), span(3, 6)},
		{"one box leaves a parcel to the other", sealed(0, two, "0011", "001?"), lists(list(0), list(1)), list(isOurs, isOurs), list(0, 1), nil, span(3, 3)},
		{"the later box leaves it", sealed(0, two, "001?", "0011"), lists(list(1), list(0)), list(isOurs, isOurs), list(0, 1), nil, span(3, 3)},
		{"one of them can be strange", sealed(1, two, "0011", "001?"), lists(list(0), list(0, 1)), list(isOpen, isOpen), nil, list(0, 1), span(1, 3)},
		{"one of them, but not that with a stamp", stamps(sealed(1, two, "0011", "001?"), 1), lists(list(0), list(0, 1)), list(isOpen, isOurs), nil, list(0, 1), span(1, 3)},
		{"one of them, but not the first one", stamps(sealed(1, two, "0011", "001?"), 0), lists(list(0), list(1)), list(isOurs, isOpen), list(0), list(1), span(1, 3)},
		{"a box that cannot be ours", sealed(1, one, "0099", ""), lists(nil, list(0)), list(isStrange, isOurs), list(0), nil, span(1, 1)},
		{"a box that cannot be ours, and others can be strange", sealed(2, one, "0099", ""), lists(nil, list(0)), list(isStrange, isOpen), nil, list(0), span(0, 1)},
		{"the later box cannot be ours", sealed(1, one, "", "0099"), lists(list(0), nil), list(isOurs, isStrange), list(0), nil, span(1, 1)},
		{"a parcel that no box can be", sealed(0, list(11, 12, 13), "001?", "0011"), lists(list(1, 2), list(0)), list(isOurs, isOurs), list(0), list(1, 2), span(3, 5)},
		{"a chain", sealed(0, list(11, 12, 22), "0011", "001?", "00?2"), lists(list(0), list(1), list(2)), list(isOurs, isOurs, isOurs), list(0, 1, 2), nil, span(7, 7)},
		{"a chain, from its end", sealed(0, list(11, 12, 22), "00?2", "001?", "0011"), lists(list(2), list(1), list(0)), list(isOurs, isOurs, isOurs), list(0, 1, 2), nil, span(7, 7)},
		{"more boxes than parcels", loose(4, 2, 6), lists(list(0, 1), list(0, 1), list(0, 1), list(0, 1), list(0, 1), list(0, 1)), slices.Repeat(list(isOpen), 6), list(0, 1), nil, span(3, 3)},
		{"all boxes, all parcels", loose(6, 8, 6), slices.Repeat(lists(list(0, 1, 2, 3, 4, 5, 6, 7)), 6), slices.Repeat(list(isOpen), 6), nil, list(0, 1, 2, 3, 4, 5, 6, 7), span(0, 252)},
		{"all boxes, all parcels, none strange", loose(0, 8, 6), slices.Repeat(lists(list(0, 1, 2, 3, 4, 5, 6, 7)), 6), slices.Repeat(list(isOurs), 6), nil, list(0, 1, 2, 3, 4, 5, 6, 7), span(63, 252)},
		{"the largest", stamps(largest(), 0, 1, 2, 3, 4, 5), slices.Repeat(lists(list(0, 1, 2, 3, 4, 5, 6, 7)), 6), slices.Repeat(list(isOurs), 6), nil, list(0, 1, 2, 3, 4, 5, 6, 7), span(600000, 600000)},
	}
}

// P9.1: Truth; P9.2: Which and Told; P9.3: Back; P9.5: Worth.
func TestP9_2Told(t *testing.T) {
	for _, x := range allTold() {
		truth, e := claim.Truth(x.d)
		if is, f := claim.IsTruth(x.d, truth); !is || e != api.OK || f != api.OK {
			t.Errorf("Truth: %s: %v, %d", x.name, truth, e)
		}
		for b := range x.d.Boxes {
			if got, e := claim.Which(x.d, b); !slices.Equal(got, x.which[b]) || e != api.OK {
				t.Errorf("Which: %s: %d: %v, %d, not %v", x.name, b, got, e, x.which[b])
			}
			if got, e := claim.Told(x.d, b); got != x.told[b] || e != api.OK {
				t.Errorf("Told: %s: %d: %d, %d, not %d", x.name, b, got, e, x.told[b])
			}
		}
		if surely, perhaps, e := claim.Back(x.d); !slices.Equal(surely, x.surely) || !slices.Equal(perhaps, x.perhaps) || e != api.OK {
			t.Errorf("Back: %s: %v, %v, %d, not %v, %v", x.name, surely, perhaps, e, x.surely, x.perhaps)
		}
		if got, e := claim.Worth(x.d); got != x.worth || e != api.OK {
			t.Errorf("Worth: %s: %v, %d, not %v", x.name, got, e, x.worth)
		}
		if got, e := claim.Wrong(x.d); len(got) > 0 || e != api.OK {
			t.Errorf("Wrong: %s: %v, %d", x.name, got, e)
		}
	}
}

// noParcel0 is the example with a stamp on the box 0, and without the parcel 0.
func noParcel0() api.ClaimDesk {
	d := stamps(example(), 0, 1)
	d.Parcels = d.Parcels[1:]
	return d
}

// P9.1, P9.2, P9.3, P9.5: the errors where what was seen cannot be true.
func TestP9_2False(t *testing.T) {
	const no, ask = api.ErrClaimFalse, api.ErrClaimAsk
	for _, x := range []struct {
		name string
		d    api.ClaimDesk
	}{
		{"the example, changed", noParcel0()},
		{"a box, no parcel", loose(0, 0, 1)},
		{"a box with a stamp, no parcel", stamps(loose(6, 0, 1), 0)},
		{"one box too many", loose(2, 3, 6)},
		{"two boxes with a stamp, one parcel", stamps(loose(6, 1, 3), 0, 2)},
		{"a seal that no parcel has", stamps(sealed(6, list(11), "0012"), 0)},
		{"two boxes of one seal", sealed(0, list(11, 12), "0011", "0011")},
	} {
		a := askAll(x.d, question{0, 0, nil})
		if e := a.errnos; e.truth != no || e.which != no || e.told != no || e.back != no || e.worth != no || !a.areZero() {
			t.Errorf("%s: %v", x.name, a)
		}
		for _, b := range list(-1, len(x.d.Boxes)) {
			if a := askAll(x.d, question{b, 0, nil}); a.errnos.which != ask || a.errnos.told != ask || !a.areZero() {
				t.Errorf("%s: of the box %d: %v", x.name, b, a)
			}
		}
	}
}

// P9.4: the least number of strange boxes, whatever the desk says of it.
func TestP9_4Fewest(t *testing.T) {
	for _, x := range []struct {
		name string
		d    api.ClaimDesk
		want int
		e    api.Errno
	}{
		{"the example", example(), 0, api.OK},
		{"the example, changed", noParcel0(), 0, api.ErrNone},
		{"the example, without the parcel 0", stamps(noParcel0(), 1), 1, api.OK},
		{"nothing", api.ClaimDesk{}, 0, api.OK},
		{"no parcels", loose(0, 0, 6), 6, api.OK},
		{"no parcels, and five boxes", loose(0, 0, 5), 5, api.OK},
		{"no parcels, and a stamp", stamps(loose(0, 0, 6), 5), 0, api.ErrNone},
		{"two parcels", loose(0, 2, 6), 4, api.OK},
		{"two parcels, and two stamps", stamps(loose(0, 2, 6), 4, 5), 4, api.OK},
		{"two parcels, and three stamps", stamps(loose(0, 2, 6), 0, 4, 5), 0, api.ErrNone},
		{"8 parcels", loose(0, 8, 6), 0, api.OK},
		{"one box leaves a parcel to the other", sealed(0, list(11, 12), "001?", "0011"), 0, api.OK},
		{"it leaves none", sealed(0, list(11, 13), "001?", "0011", "0012"), 1, api.OK},
		{"two of one seal", sealed(0, list(11, 12), "0011", "0011"), 1, api.OK},
		{"two of one seal, with a stamp", stamps(sealed(0, list(11, 12), "0011", "0011"), 1), 1, api.OK},
		{"two of one seal, with two stamps", stamps(sealed(0, list(11, 12), "0011", "0011"), 0, 1), 0, api.ErrNone},
	} {
		for many := range api.ClaimBoxes + 1 {
			x.d.Strange = many
			if got, e := claim.Fewest(x.d); got != x.want || e != x.e {
				t.Errorf("%s, %d strange: %d, %d, not %d, %d", x.name, many, got, e, x.want, x.e)
			}
		}
	}
}

// P9.4: the fewest boxes whose stamps must be false.
func TestP9_4Wrong(t *testing.T) {
	pairs := sealed(2, list(11, 12), "0011", "0012", "0012", "0011")
	for _, x := range []struct {
		name string
		d    api.ClaimDesk
		want []int
		e    api.Errno
	}{
		{"the example", example(), nil, api.OK},
		{"the example, changed", noParcel0(), list(0), api.OK},
		{"the example, changed, none strange", func() api.ClaimDesk {
			d := noParcel0()
			d.Strange = 0
			return d
		}(), nil, api.ErrNone},
		{"nothing", api.ClaimDesk{}, nil, api.OK},
		{"a box, no parcel", loose(0, 0, 1), nil, api.ErrNone},
		{"a box with a stamp, none strange", stamps(loose(0, 0, 1), 0), nil, api.ErrNone},
		{"a box with a stamp, one strange", stamps(loose(1, 0, 1), 0), list(0), api.OK},
		{"six boxes with stamps", stamps(loose(6, 0, 6), 0, 1, 2, 3, 4, 5), list(0, 1, 2, 3, 4, 5), api.OK},
		{"six boxes with stamps, five strange", stamps(loose(5, 0, 6), 0, 1, 2, 3, 4, 5), nil, api.ErrNone},
		{"six boxes with stamps, two parcels", stamps(loose(6, 2, 6), 0, 1, 2, 3, 4, 5), list(0, 1, 2, 3), api.OK},
		{"four boxes with stamps, two parcels", stamps(loose(4, 2, 6), 1, 2, 4, 5), list(1, 2), api.OK},
		{"only the last stamp", stamps(sealed(1, list(11, 12), "0011", "0012", "0013"), 0, 1, 2), list(2), api.OK},
		{"one of the last two", stamps(sealed(1, list(11, 12), "0011", "0012", "0012"), 0, 1, 2), list(1), api.OK},
		{"a strange one already", stamps(sealed(1, list(11, 12), "0011", "0012", "0012", ""), 0, 1, 2), nil, api.ErrNone},
		{"one of each two", stamps(pairs, 0, 1, 2, 3), list(0, 1), api.OK},
		{"one of each two, without a stamp", stamps(pairs, 1, 2, 3), list(1), api.OK},
		{"one of each two, without two stamps", stamps(pairs, 2, 3), nil, api.OK},
		{"the first two are no use together", stamps(sealed(2, list(11, 12), "0011", "0011", "0012", "0012"), 0, 1, 2, 3), list(0, 2), api.OK},
		{"a box leaves its parcel to one without a stamp", stamps(sealed(1, list(11, 12), "0011", "001?", "0011"), 0, 2), list(0), api.OK},
	} {
		if got, e := claim.Wrong(x.d); !slices.Equal(got, x.want) || e != x.e {
			t.Errorf("%s: %v, %d, not %v, %d", x.name, got, e, x.want, x.e)
		}
	}
}
