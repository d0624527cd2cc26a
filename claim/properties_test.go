package claim_test

import (
	"reflect"
	"slices"
	"strings"
	"testing"

	"wishbook/api"
	"wishbook/claim"
	"wishbook/sample"
)

// P9.1: all boxes and all parcels: whether the one can be the other, as the definition says.
func TestP9_1AllBoxes(t *testing.T) {
	are := map[bool]int{}
	eachDesk(t, 1000, api.ClaimParcels, api.ClaimBoxes, func(_ sample.Dice, d api.ClaimDesk) {
		for b := range d.Boxes {
			for p := range d.Parcels {
				want := plainCould(d, d.Boxes[b], d.Parcels[p])
				are[want]++
				if got, e := claim.Could(d, b, p); got != want || e != api.OK {
					t.Fatalf("Could of %v, %d, %d: %v, %d", d, b, p, got, e)
				}
			}
		}
	})
	if are[true] < 1000 || are[false] < 1000 {
		t.Errorf("boxes that can be parcels, and others: %v", are)
	}
}

// P9.1: all lists of parcels of small desks: whether they are truths, as the definition says.
func TestP9_1AllLists(t *testing.T) {
	are := map[bool]int{}
	eachDesk(t, 1500, 4, 4, func(_ sample.Dice, d api.ClaimDesk) {
		var add func(parcels []int)
		add = func(parcels []int) {
			want := plainIsTruth(d, parcels)
			are[want]++
			if got, e := claim.IsTruth(d, parcels); got != want || e != api.OK {
				t.Fatalf("IsTruth of %v, %v: %v, %d", d, parcels, got, e)
			}
			if len(parcels) == len(d.Boxes) {
				return
			}
			for p := -1; p < len(d.Parcels); p++ {
				add(append(slices.Clone(parcels), p))
			}
		}
		add(nil)
	})
	if are[true] < 400 || are[false] < 10000 {
		t.Errorf("truths, and others: %v", are)
	}
}

// P9.1, P9.2, P9.3, P9.5: what is told of a desk is what all truths say, which are gone through one by one.
func TestP9_2AllTruths(t *testing.T) {
	var met struct{ none, one, several int }
	var are [3]int
	var surelyByOthers, perhaps int
	eachDesk(t, 1500, api.ClaimParcels, api.ClaimBoxes, func(_ sample.Dice, d api.ClaimDesk) {
		truths := plainTruths(d)
		truth, e := claim.Truth(d)
		if len(truths) == 0 {
			met.none++
			if len(truth) > 0 || e != api.ErrClaimFalse {
				t.Fatalf("Truth of %v: %v, %d, but there is none", d, truth, e)
			}
			return
		}
		if len(truths) == 1 {
			met.one++
		} else {
			met.several++
		}
		if !slices.ContainsFunc(truths, func(l []int) bool { return slices.Equal(l, truth) }) || e != api.OK {
			t.Fatalf("Truth of %v: %v, %d", d, truth, e)
		}
		inAll := map[int]bool{} // the parcels that one box is in all truths
		for b := range d.Boxes {
			want := whichOf(truths, b)
			if len(want) == 1 {
				inAll[want[0]] = true
			}
			want = slices.DeleteFunc(want, func(p int) bool { return p < 0 })
			if got, e := claim.Which(d, b); !slices.Equal(got, want) || e != api.OK {
				t.Fatalf("Which of %v, %d: %v, %d, not %v", d, b, got, e, want)
			}
			told := toldOf(truths, b)
			are[told]++
			if got, e := claim.Told(d, b); got != told || e != api.OK {
				t.Fatalf("Told of %v, %d: %d, %d, not %d", d, b, got, e, told)
			}
		}
		wantSurely, wantPerhaps := backOf(truths)
		surely, perhapses, e := claim.Back(d)
		if !slices.Equal(surely, wantSurely) || !slices.Equal(perhapses, wantPerhaps) || e != api.OK {
			t.Fatalf("Back of %v: %v, %v, %d, not %v, %v", d, surely, perhapses, e, wantSurely, wantPerhaps)
		}
		for _, p := range surely {
			if !inAll[p] {
				surelyByOthers++
			}
		}
		perhaps += len(perhapses)
		least, most := worthOf(d, truths[0]), worthOf(d, truths[0])
		for _, parcels := range truths {
			least, most = min(least, worthOf(d, parcels)), max(most, worthOf(d, parcels))
		}
		if got, e := claim.Worth(d); got != span(least, most) || e != api.OK {
			t.Fatalf("Worth of %v: %v, %d, not %d to %d", d, got, e, least, most)
		}
	})
	if met.none < 100 || met.one < 100 || met.several < 200 || slices.Min(are[:]) < 100 || surelyByOthers < 20 || perhaps < 300 {
		t.Errorf("too few of some kind: %v, %v, %d, %d", met, are, surelyByOthers, perhaps)
	}
}

// trueDesk returns a desk, and what is true of it: first the truth is made, and then a desk that says no more than it allows.
func trueDesk(d sample.Dice, desk api.ClaimDesk) (api.ClaimDesk, []int) {
	order := d.Order(len(desk.Parcels))
	truth := make([]int, len(desk.Boxes))
	strange := 0
	for i := range truth {
		if len(order) == 0 || d(3) == 0 {
			truth[i] = -1
			strange++
			desk.Boxes[i].Stamp = false
			continue
		}
		truth[i], order = order[0], order[1:]
		p := desk.Parcels[truth[i]]
		b := someBox(d, api.ClaimDesk{Parcels: []api.ClaimParcel{p}})
		b.Day = p.Day + desk.Days.Low + d(desk.Days.High-desk.Days.Low+1)
		weight := max(0, p.Weight-d(desk.Wear+1))
		b.Weight = span(max(0, weight-d(3)), weight+d(3))
		if !plainCould(desk, b, p) {
			b.Seal = "" // it was made of another one
		}
		desk.Boxes[i] = b
	}
	desk.Strange = min(api.ClaimBoxes, strange+d(2))
	return desk, truth
}

// P9.7: whatever is true, it is among what is told.
func TestP9_7WhatIsTrue(t *testing.T) {
	var ours, strange, open, surely, perhaps int
	eachDesk(t, 1500, api.ClaimParcels, api.ClaimBoxes, func(d sample.Dice, desk api.ClaimDesk) {
		desk, truth := trueDesk(d, clone(desk))
		if is, e := claim.IsTruth(desk, truth); !is || e != api.OK {
			t.Fatalf("IsTruth of %v, %v: %v, %d", desk, truth, is, e)
		}
		for b, p := range truth {
			told, e := claim.Told(desk, b)
			which, f := claim.Which(desk, b)
			if e != api.OK || f != api.OK || told == isOurs && p < 0 || told == isStrange && p >= 0 || p >= 0 && !slices.Contains(which, p) {
				t.Fatalf("of %v, %d: %d, %d, %v, %d, but truly %v", desk, b, told, e, which, f, truth)
			}
			switch told {
			case isOurs:
				ours++
			case isStrange:
				strange++
			default:
				open++
			}
		}
		sure, may, e := claim.Back(desk)
		surely, perhaps = surely+len(sure), perhaps+len(may)
		for p := range desk.Parcels {
			isBack := slices.Contains(truth, p)
			isSure, isMay := slices.Contains(sure, p), slices.Contains(may, p)
			if e != api.OK || isSure && !isBack || isBack && !isSure && !isMay || isSure && isMay {
				t.Fatalf("Back of %v: %v, %v, %d, but truly %v", desk, sure, may, e, truth)
			}
		}
		worth, e := claim.Worth(desk)
		if truly := worthOf(desk, truth); e != api.OK || truly < worth.Low || truly > worth.High {
			t.Fatalf("Worth of %v: %v, %d, but truly %d", desk, worth, e, truly)
		}
	})
	if ours < 100 || strange < 100 || open < 300 || surely < 300 || perhaps < 300 {
		t.Errorf("too few of some kind: %d, %d, %d, %d, %d", ours, strange, open, surely, perhaps)
	}
}

func canBeTrue(d api.ClaimDesk) bool {
	_, e := claim.Truth(d)
	return e == api.OK
}

// P9.8: a parcel is told of a box just if it can be it, and the rest can be true without both; a box can be strange just if it has no stamp, and the rest can be true with one strange box fewer.
func TestP9_8WithoutBoth(t *testing.T) {
	told := map[bool]int{}
	strange := map[bool]int{}
	eachDesk(t, 2000, api.ClaimParcels, api.ClaimBoxes, func(_ sample.Dice, d api.ClaimDesk) {
		if !canBeTrue(d) {
			return
		}
		for b, box := range d.Boxes {
			which, e := claim.Which(d, b)
			for p := range d.Parcels {
				could, f := claim.Could(d, b, p)
				is := slices.Contains(which, p)
				if is != (could && canBeTrue(without(d, b, p))) || e != api.OK || f != api.OK {
					t.Fatalf("Which of %v, %d: %v, %d, and Could of %d: %v, %d", d, b, which, e, p, could, f)
				}
				if could {
					told[is]++
				}
			}
			kind, e := claim.Told(d, b)
			is := !box.Stamp && d.Strange > 0 && canBeTrue(without(d, b, -1))
			if is != (kind != isOurs) || e != api.OK {
				t.Fatalf("Told of %v, %d: %d, %d, but strange: %v", d, b, kind, e, is)
			}
			if !box.Stamp && d.Strange > 0 {
				strange[is]++
			}
		}
	})
	if told[true] < 300 || told[false] < 50 || strange[true] < 300 || strange[false] < 30 {
		t.Errorf("parcels that are told of a box, and others: %v; strange boxes, and others: %v", told, strange)
	}
}

// withoutStamps is a desk in which the stamps of some boxes are left out.
func withoutStamps(d api.ClaimDesk, boxes []int) api.ClaimDesk {
	d = clone(d)
	for _, b := range boxes {
		d.Boxes[b].Stamp = false
	}
	return d
}

// P9.4, P9.9: without the stamps that are told there is a truth; without fewer, or as many that come before them, there is none.
func TestP9_9Stamps(t *testing.T) {
	many := map[int]int{}
	notFirst := 0
	eachDesk(t, 4000, api.ClaimParcels, api.ClaimBoxes, func(r sample.Dice, d api.ClaimDesk) {
		d = clone(d)
		all := 0
		for b := range d.Boxes {
			if d.Boxes[b].Stamp = r(3) > 0; d.Boxes[b].Stamp {
				all |= 1 << b
			}
		}
		var want []int
		is := false
		for set := range all + 1 {
			boxes := members(set)
			if set&^all == 0 && len(plainTruths(withoutStamps(d, boxes))) > 0 {
				isBetter := len(boxes) < len(want) || len(boxes) == len(want) && slices.Compare(boxes, want) < 0
				if !is || isBetter {
					want, is = boxes, true
				}
			}
		}
		e := api.OK
		if !is {
			e = api.ErrNone
			many[-1]++
		} else {
			many[len(want)]++
		}
		if got, f := claim.Wrong(d); !slices.Equal(got, want) || f != e {
			t.Fatalf("Wrong of %v: %v, %d, not %v, %d", d, got, f, want, e)
		}
		if first := members(all); is && len(want) > 0 && !slices.Equal(want, first[:len(want)]) {
			notFirst++
		}
	})
	if many[-1] < 50 || many[0] < 50 || many[1] < 50 || many[2] < 30 || many[3] < 10 || notFirst < 50 {
		t.Errorf("how many stamps are false: %v, of them not the first ones: %d", many, notFirst)
	}
}

// P9.4, P9.9: with as many strange boxes as are told there is a truth, with one fewer there is none.
func TestP9_9Strangers(t *testing.T) {
	many := map[int]int{}
	eachDesk(t, 1500, api.ClaimParcels, api.ClaimBoxes, func(_ sample.Dice, d api.ClaimDesk) {
		fewest, e := claim.Fewest(d)
		d.Strange = api.ClaimBoxes
		if e == api.ErrNone {
			many[-1]++
			if fewest != 0 || len(plainTruths(d)) > 0 {
				t.Fatalf("Fewest of %v: %d, %d", d, fewest, e)
			}
			return
		}
		many[fewest]++
		d.Strange = fewest
		if e != api.OK || len(plainTruths(d)) == 0 {
			t.Fatalf("Fewest of %v: %d, %d, but there is no truth", d, fewest, e)
		}
		if d.Strange--; fewest > 0 && len(plainTruths(d)) > 0 {
			t.Fatalf("Fewest of %v: %d, but there is a truth with fewer", d, fewest)
		}
	})
	if many[-1] < 50 || many[0] < 100 || many[1] < 100 || many[2] < 50 || many[3] < 20 {
		t.Errorf("how few can be strange: %v", many)
	}
}

// P9.10: the least and the greatest value are those of one box and of the rest, for the best choice of its parcel.
func TestP9_10OneBoxAndTheRest(t *testing.T) {
	tested := 0
	eachDesk(t, 2000, api.ClaimParcels, api.ClaimBoxes, func(r sample.Dice, d api.ClaimDesk) {
		got, e := claim.Worth(d)
		if e != api.OK || len(d.Boxes) == 0 {
			return
		}
		b := r(len(d.Boxes))
		var lows, highs []int
		add := func(value int, rest api.ClaimDesk) {
			if worth, e := claim.Worth(rest); e == api.OK {
				lows, highs = append(lows, value+worth.Low), append(highs, value+worth.High)
			}
		}
		for p, of := range d.Parcels {
			if could, _ := claim.Could(d, b, p); could {
				add(of.Value, without(d, b, p))
			}
		}
		if !d.Boxes[b].Stamp && d.Strange > 0 {
			add(0, without(d, b, -1))
		}
		if got != span(slices.Min(lows), slices.Max(highs)) {
			t.Fatalf("Worth of %v: %v, but of one box and the rest %v, %v", d, got, lows, highs)
		}
		if slices.Min(lows) < slices.Max(lows) && slices.Min(highs) < slices.Max(highs) {
			tested++
		}
	})
	if tested < 100 {
		t.Errorf("only %d desks where it matters which parcel the box is", tested)
	}
}

// wider makes desks that say less, if they are valid still.
func wider(r sample.Dice, d api.ClaimDesk) []api.ClaimDesk {
	var desks []api.ClaimDesk
	for _, do := range []func(d *api.ClaimDesk, b *api.ClaimBox){
		func(d *api.ClaimDesk, b *api.ClaimBox) { d.Days.Low-- },
		func(d *api.ClaimDesk, b *api.ClaimBox) { d.Days.High += 1 + r(3) },
		func(d *api.ClaimDesk, b *api.ClaimBox) { d.Wear += 1 + r(3) },
		func(d *api.ClaimDesk, b *api.ClaimBox) { b.Weight.Low -= 1 + r(3) },
		func(d *api.ClaimDesk, b *api.ClaimBox) { b.Weight.High += 1 + r(3) },
		func(d *api.ClaimDesk, b *api.ClaimBox) {
			if i := r(4); b.Seal != "" {
				b.Seal = b.Seal[:i] + "?" + b.Seal[i+1:]
			}
		},
		func(d *api.ClaimDesk, b *api.ClaimBox) { b.Seal = "" },
		func(d *api.ClaimDesk, b *api.ClaimBox) { d.Parcels = append(d.Parcels, someParcel(r)) },
	} {
		w := clone(d)
		if do(&w, &w.Boxes[r(len(w.Boxes))]); claim.Check(w) == api.OK {
			desks = append(desks, w)
		}
	}
	return desks
}

// P9.11: where less is said no parcel is taken away that a box can be, by itself and in a truth.
func TestP9_11NothingIsTakenAway(t *testing.T) {
	var could, which int // that were added
	eachDesk(t, 2000, api.ClaimParcels, api.ClaimBoxes, func(r sample.Dice, d api.ClaimDesk) {
		if len(d.Boxes) == 0 {
			return
		}
		for _, w := range wider(r, d) {
			for b := range d.Boxes {
				for p := range d.Parcels {
					before, e := claim.Could(d, b, p)
					now, f := claim.Could(w, b, p)
					if before && !now || e != api.OK || f != api.OK {
						t.Fatalf("Could of %v, %d, %d: %v, %d, but of %v: %v, %d", d, b, p, before, e, w, now, f)
					}
					if now && !before {
						could++
					}
				}
				before, e := claim.Which(d, b)
				now, f := claim.Which(w, b)
				for _, p := range before {
					if !slices.Contains(now, p) || e != api.OK || f != api.OK {
						t.Fatalf("Which of %v, %d: %v, %d, but of %v: %v, %d", d, b, before, e, w, now, f)
					}
				}
				if e == api.OK && len(now) > len(before) {
					which++
				}
			}
		}
	})
	if could < 300 || which < 300 {
		t.Errorf("parcels that were added: %d, boxes of which more are told: %d", could, which)
	}
}

func usual() question {
	return question{1, 1, sample.Roomy(list(0, 1, 2), -1)}
}

// P9.6: arguments are only read, also where there is free room behind them.
func TestP9_6ArgumentsAreOnlyRead(t *testing.T) {
	for _, do := range []func(d *api.ClaimDesk){
		func(d *api.ClaimDesk) {}, strange(6), func(d *api.ClaimDesk) { *d = noParcel0() }, func(d *api.ClaimDesk) { *d = stamps(loose(6, 2, 6), 0, 1, 2, 3, 4, 5) },
	} {
		d, q := clone(changed(do)), usual()
		if a := askAll(d, q); a.check != api.OK || a.errnos.wrong != api.OK {
			t.Fatalf("an error: %v", a)
		}
		if !reflect.DeepEqual(d, clone(changed(do))) || !reflect.DeepEqual(q, usual()) {
			t.Errorf("an argument was changed: %v, %v", d, q)
		}
		n, m := len(d.Parcels), len(d.Boxes)
		if d.Parcels[:n+1][n].Day != -1 || d.Boxes[:m+1][m].Seal != "-" || q.parcels[:4][3] != -1 {
			t.Errorf("something was written behind a list: %v, %v", d, q)
		}
	}
}

// P9.6: arguments are not retained, and results are new memory, each list its own.
func TestP9_6ResultsAreNewMemory(t *testing.T) {
	d, q := clone(loose(2, 1, 2)), usual()
	d.Parcels = append(d.Parcels, parcel(0, 1, 9, 100), parcel(0, 0, 9999, 5))
	d.Boxes = append(d.Boxes, stamped(box(0, 1, 1, "")))
	want, got := askAll(d, q), askAll(d, q)
	if len(want.truth) == 0 || len(want.which) == 0 || len(want.surely) == 0 || len(want.perhaps) == 0 {
		t.Fatalf("too little is told: %v", want)
	}
	clear(got.surely[:cap(got.surely)])
	if !slices.Equal(got.perhaps, want.perhaps) {
		t.Errorf("both lists of parcels share memory: %v", got.perhaps)
	}
	for _, l := range [][]int{got.truth, got.which, got.perhaps} {
		clear(l[:cap(l)])
	}
	if again := askAll(d, q); !reflect.DeepEqual(again, want) {
		t.Errorf("after results were changed: %v, not %v", again, want)
	}
	six := stamps(loose(6, 2, 6), 0, 1, 2, 3, 4, 5)
	wrong, _ := claim.Wrong(six)
	clear(wrong[:cap(wrong)])
	if again, _ := claim.Wrong(six); !slices.Equal(again, list(0, 1, 2, 3)) {
		t.Errorf("Wrong, after a result was changed: %v", again)
	}
	d = clone(example())
	held, before := askAll(d, q), askAll(clone(example()), usual())
	d.Boxes[0].Seal, d.Boxes[1].Stamp, d.Parcels[1].Value, d.Strange = "", false, 0, 3
	q.parcels[0] = 1
	if !reflect.DeepEqual(held, before) {
		t.Errorf("after the arguments were changed: %v, not %v", held, before)
	}
	if reflect.DeepEqual(askAll(d, usual()), before) {
		t.Errorf("a changed desk answers as before: %v", before)
	}
}

// P1: whatever the arguments are, each function returns, and with an error all else is zero.
func TestP1_AllArguments(t *testing.T) {
	desks := []api.ClaimDesk{{}, example(), largest(), noParcel0(), loose(6, 8, 6), loose(0, 0, 6), stamps(loose(5, 0, 6), 0, 1, 2, 3, 4, 5)}
	for _, n := range extremes {
		for _, m := range extremes {
			for _, do := range []func(d *api.ClaimDesk){
				terms(n, m), wear(n), strange(n), sent(0, parcel(n, m, 0, 0)), sent(1, parcel(0, 0, n, m)), came(0, box(n, 0, m, "")), came(1, stamped(box(0, n, m, "????"))),
				func(d *api.ClaimDesk) { *d = api.ClaimDesk{Days: span(n, m), Wear: m, Strange: n} },
			} {
				desks = append(desks, changed(do))
			}
		}
	}
	for _, d := range desks {
		for _, n := range extremes {
			for _, q := range []question{{n, 0, list(n)}, {0, n, list(0, n, 2)}, {n, n, nil}, {0, 0, list(0, 1, 2, 3, 4, 5, 6, 7, n)}, {1, 2, list(n, n, n)}, {2, 1, list(5, 4, 3, 2, 1, n)}} {
				a := askAll(d, q)
				e := a.errnos
				if !a.areZero() || a.check != api.OK && (a.check != api.ErrClaim || e.could != a.check || e.wrong != a.check) {
					t.Fatalf("of %v, %v: %v", d, q, a)
				}
			}
		}
	}
}

// P1: very long lists, and very long texts.
func TestP1_LongLists(t *testing.T) {
	for _, l := range [][]int{slices.Repeat(list(0), 1<<20), slices.Repeat(list(0, 1, 2), 1<<20)} {
		if is, e := claim.IsTruth(example(), l); is || e != api.OK {
			t.Errorf("IsTruth of %d parcels: %v, %d", len(l), is, e)
		}
	}
	for _, d := range []api.ClaimDesk{
		loose(6, 1<<20, 1), loose(6, 1, 1<<20), changed(read(strings.Repeat("?", 1<<20))), changed(read(strings.Repeat("é", 1<<20))),
	} {
		if a := askAll(d, usual()); a.check != api.ErrClaim || a.errnos.worth != api.ErrClaim || !a.areZero() {
			t.Errorf("of a desk of %d parcels and %d boxes: %v", len(d.Parcels), len(d.Boxes), a)
		}
	}
}

// P2: the same arguments have the same result, whatever was called before.
func TestP2_SameArgumentsSameResult(t *testing.T) {
	want := askAll(example(), usual())
	eachDesk(t, 500, api.ClaimParcels, api.ClaimBoxes, func(r sample.Dice, d api.ClaimDesk) {
		q := question{r(len(d.Boxes) + 1), r(len(d.Parcels) + 1), r.Order(len(d.Boxes))}
		one, other := askAll(d, q), askAll(clone(d), q)
		if !one.areZero() || !reflect.DeepEqual(one, other) {
			t.Fatalf("of %v, %v: %v, then %v", d, q, one, other)
		}
		if got := askAll(example(), usual()); !reflect.DeepEqual(got, want) {
			t.Fatalf("of the example after %v: %v, not %v", d, got, want)
		}
	})
}
