package slip_test

import (
	"math"
	"math/rand"
	"reflect"
	"slices"
	"testing"

	"wishbook/api"
	"wishbook/sample"
	"wishbook/slip"
)

// answers are what all functions return of a floor, of one of its slips, of so many pickers, of tours and of a roster.
type answers struct {
	is      bool
	tours   [][]api.SlipLine
	numbers [2]int
	takes   api.Span
	done    []api.Span
	roster  [][]int
	late    []int
	errnos  [9]api.Errno
}

// question is what is asked about a floor.
type question struct {
	slip, pickers int
	tours         [][]api.SlipLine
	roster        [][]int
}

func usual() question {
	return question{3, 1, tours(tour(1, 1, 2, 2), tour(2, 4)), roster(list(2, 1), list(0, 3))}
}

func askAll(f api.SlipFloor, q question) answers {
	var a answers
	a.errnos[0] = slip.Check(f)
	a.is, a.errnos[1] = slip.IsTours(f, q.slip, q.tours)
	a.tours, a.errnos[2] = slip.Tours(f, q.slip)
	a.numbers[0], a.errnos[3] = slip.Steps(f, q.slip)
	a.takes, a.errnos[4] = slip.Takes(f, q.slip)
	a.done, a.errnos[5] = slip.Done(f, q.roster)
	a.roster, a.errnos[6] = slip.Roster(f)
	a.late, a.errnos[7] = slip.Late(f, q.pickers)
	a.numbers[1], a.errnos[8] = slip.Spare(f, q.slip)
	return a
}

// P3.7: arguments are as they were, also behind their ends.
func TestP3_7ArgumentsAreOnlyRead(t *testing.T) {
	f, before := clone(example()), clone(example())
	q := usual()
	for i := range q.tours {
		q.tours[i] = append(q.tours[i], tour(-1, -1)...)[:len(q.tours[i])]
	}
	for i := range q.roster {
		q.roster[i] = append(q.roster[i], -1)[:len(q.roster[i])]
	}
	askAll(f, q)
	if !reflect.DeepEqual(f, before) || !reflect.DeepEqual(q, usual()) {
		t.Errorf("an argument was changed: %v, %v", f, q)
	}
	if f.Far[:4][3] != -1 || f.Pick[:4][3] != span(-1, -2) || f.Slips[:5][4].Until != -1 {
		t.Errorf("something was written behind a list: %v, %v, %v", f.Far[:4], f.Pick[:4], f.Slips[:5])
	}
	for _, s := range f.Slips {
		if n := len(s.Lines); s.Lines[:n+1][n].Shelf != -1 {
			t.Errorf("something was written behind the lines %v", s.Lines[:n+1])
		}
	}
	for i, lines := range q.tours {
		if n := len(lines); lines[:n+1][n].Shelf != -1 || q.roster[i][:3][2] != -1 {
			t.Errorf("something was written behind a list of %v", q)
		}
	}
}

// P3.7: arguments are not retained, and results are new memory, of which no two lists share any.
func TestP3_7ResultsAreNewMemory(t *testing.T) {
	f, q := example(), usual()
	want, got := askAll(f, q), askAll(f, q)
	for _, lines := range got.tours {
		for i := range lines[:cap(lines)] {
			lines[:cap(lines)][i].Many++
		}
	}
	for _, slips := range append(got.roster, got.late) {
		for i := range slips[:cap(slips)] {
			slips[:cap(slips)][i]++
		}
	}
	for k, lines := range got.tours {
		for i := range lines {
			if lines[i].Many != want.tours[k][i].Many+1 {
				t.Errorf("the tour %d shares memory with another one: %v", k, got.tours)
			}
		}
	}
	for k, slips := range append(got.roster, got.late) {
		for i := range slips {
			if slips[i] != append(want.roster, want.late)[k][i]+1 {
				t.Errorf("the list %d shares memory with another one: %v, %v", k, got.roster, got.late)
			}
		}
	}
	clear(got.done[:cap(got.done)])
	if again := askAll(f, q); !reflect.DeepEqual(again, want) {
		t.Errorf("after results were changed: %v, not %v", again, want)
	}
	held := askAll(f, q)
	f.Far[2], f.Pick[0], f.Slips[0].Until, f.Slips[3].Lines[0].Many, q.tours[0][0].Many, q.roster[0][0] = 41, span(0, 1), 1, 2, 2, 1
	if !reflect.DeepEqual(held, want) {
		t.Errorf("after the arguments were changed: %v, not %v", held, want)
	}
	if reflect.DeepEqual(askAll(f, q), want) {
		t.Errorf("a changed floor answers as before: %v", want)
	}
}

// stepsOf is how many steps tours take together.
func stepsOf(f api.SlipFloor, list [][]api.SlipLine) int {
	steps := 0
	for _, t := range list {
		far := 0
		for _, l := range t {
			far = max(far, f.Far[l.Shelf])
		}
		steps += 2 * far
	}
	return steps
}

// P3.8: the tours that are told are such tours, and none take fewer steps.
func TestP3_8TheFewestSteps(t *testing.T) {
	eachFloor(t, 600, 4, func(rnd *rand.Rand, f api.SlipFloor) {
		for s, written := range f.Slips {
			got, e := slip.Tours(f, s)
			if e != api.OK || !areTours(f, written, got) {
				t.Fatalf("Tours of %v, %d: %v, %d", f, s, got, e)
			}
			want := plainSteps(f, count(written.Lines), map[pieces]int{})
			if steps, e := slip.Steps(f, s); steps != want || e != api.OK || stepsOf(f, got) != want {
				t.Fatalf("of %v, %d: Steps %d, %d, Tours %v, not %d steps", f, s, steps, e, got, want)
			}
		}
	})
}

// P3.8: many pieces, and all that can be carried.
func TestP3_8ManyPieces(t *testing.T) {
	for carry := 1; carry <= 20; carry++ {
		f := api.SlipFloor{Far: []int{3, 7, 7, 20}, Step: span(1, 1), Pick: make([]api.Span, 4), Carry: carry, Slips: []api.SlipSlip{
			written(0, 0, 7, 3, 9), written(0, 1, 5, 2, 6, 3, 1), written(0, 0, 3, 1, 3, 2, 3, 3, 3),
		}}
		for s, written := range f.Slips {
			want := plainSteps(f, count(written.Lines), map[pieces]int{})
			if got, e := slip.Steps(f, s); got != want || e != api.OK {
				t.Errorf("Steps of %v, %d: %d, %d, not %d", f, s, got, e, want)
			}
		}
	}
}

// P3.1, P3.8: whatever is changed in tours, they are tours of the slip just if the definitions say so.
func TestP3_8WhatAreTours(t *testing.T) {
	are := map[bool]int{}
	eachFloor(t, 300, 4, func(rnd *rand.Rand, f api.SlipFloor) {
		for s, written := range f.Slips {
			list, _ := slip.Tours(f, s)
			for range 8 {
				disturb(rnd, list)
				want := areTours(f, written, list)
				are[want]++
				if got, e := slip.IsTours(f, s, list); got != want || e != api.OK {
					t.Fatalf("IsTours of %v, %d, %v: %v, %d, not %v", f, s, list, got, e, want)
				}
			}
		}
	})
	if are[true] < 100 || are[false] < 100 {
		t.Errorf("tours that are, and are not: %v", are)
	}
}

// P3.1, P3.8: wherever among tours a list without lines stands, they are no tours of the slip.
func TestP3_8NoTourWithoutLines(t *testing.T) {
	eachFloor(t, 300, 4, func(rnd *rand.Rand, f api.SlipFloor) {
		for s := range f.Slips {
			list, _ := slip.Tours(f, s)
			for at := range len(list) + 1 {
				for _, none := range tours(nil, []api.SlipLine{}) {
					more := slices.Insert(slices.Clone(list), at, none)
					if got, e := slip.IsTours(f, s, more); got || e != api.OK {
						t.Fatalf("IsTours of %v, %d, %v: %v, %d", f, s, more, got, e)
					}
				}
			}
		}
	})
}

// disturb moves a piece from some line to another one, of the same shelf or not, or changes one number.
func disturb(rnd *rand.Rand, list [][]api.SlipLine) {
	from, to := list[rnd.Intn(len(list))], list[rnd.Intn(len(list))]
	one, other := &from[rnd.Intn(len(from))], &to[rnd.Intn(len(to))]
	switch rnd.Intn(6) {
	case 0:
		one.Many += rnd.Intn(3) - 1
	case 1:
		one.Shelf += rnd.Intn(3) - 1
	default:
		one.Many--
		other.Many++
	}
}

// P3.9: the roster has all in time, a picker fewer never has; no fewer slips must be late, and no slip can be sooner.
func TestP3_9TheFewestPickers(t *testing.T) {
	pickers := map[int]int{}
	eachFloor(t, 600, 5, func(rnd *rand.Rand, f api.SlipFloor) {
		many, best := fewest(f)
		pickers[many]++
		got, e := slip.Roster(f)
		if many > 5 {
			if len(got) > 0 || e != api.ErrNone {
				t.Fatalf("Roster of %v: %v, %d", f, got, e)
			}
		} else if len(got) != many || e != api.OK || !isRoster(f, got) || len(late(f, plainDone(plainTakes(f), got))) > 0 {
			t.Fatalf("Roster of %v: %v, %d, not %d pickers", f, got, e, many)
		}
		for s := range f.Slips {
			got, e := slip.Spare(f, s)
			if many > 5 && (got != 0 || e != api.ErrNone) || many <= 5 && (got != best.soonest[s] || e != api.OK) {
				t.Fatalf("Spare of %v, %d: %d, %d, not %v", f, s, got, e, best)
			}
		}
	})
	for many := 1; many <= 6; many++ {
		if many != 5 && pickers[many] < 10 {
			t.Errorf("no floor of %d pickers: %v", many, pickers)
		}
	}
}

// P3.9: no fewer slips must be late than are told, and no list of as many is before theirs.
func TestP3_9TheFewestLate(t *testing.T) {
	sizes := map[int]int{}
	eachFloor(t, 300, 5, func(rnd *rand.Rand, f api.SlipFloor) {
		for pickers := 1; pickers <= 3; pickers++ {
			want := plain(f, pickers).late
			sizes[len(want)]++
			if got, e := slip.Late(f, pickers); !slices.Equal(got, want) || e != api.OK {
				t.Fatalf("Late of %v, %d: %v, %d, not %v", f, pickers, got, e, want)
			}
		}
	})
	for many := range 4 {
		if sizes[many] < 10 {
			t.Errorf("no floor with %d slips that are late: %v", many, sizes)
		}
	}
}

// P3.9: what is told of floors of up to nine slips: the others can be in time without those that are late.
func TestP3_9ManySlips(t *testing.T) {
	eachFloor(t, 60, api.SlipSlips, func(rnd *rand.Rand, f api.SlipFloor) {
		for pickers := 1; pickers <= api.SlipPickers; pickers++ {
			slips, e := slip.Late(f, pickers)
			if e != api.OK || !slices.IsSorted(slips) {
				t.Fatalf("Late of %v, %d: %v, %d", f, pickers, slips, e)
			}
			got, e := slip.Roster(without(f, slips))
			if len(got) > pickers || e != api.OK {
				t.Fatalf("Roster of %v without %v: %v, %d, not %d pickers", f, slips, got, e, pickers)
			}
			for i := range slips {
				fewer := slices.Delete(slices.Clone(slips), i, i+1)
				if got, e := slip.Roster(without(f, fewer)); e == api.OK && len(got) <= pickers {
					t.Fatalf("Roster of %v without %v: %v, but Late told %v", f, fewer, got, slips)
				}
			}
		}
	})
}

func without(f api.SlipFloor, slips []int) api.SlipFloor {
	f = clone(f)
	for _, s := range slices.Backward(slips) {
		f.Slips = slices.Delete(f.Slips, s, s+1)
	}
	return f
}

// truly is when each slip is done if each step, and each piece, takes what is drawn of its span.
func truly(f api.SlipFloor, roster [][]int, draw func(s api.Span) int) []int {
	done := make([]int, len(f.Slips))
	for _, slips := range roster {
		second := 0
		for _, s := range slips {
			steps, _ := slip.Steps(f, s)
			for range steps {
				second += draw(f.Step)
			}
			for _, l := range f.Slips[s].Lines {
				for range l.Many {
					second += draw(f.Pick[l.Shelf])
				}
			}
			done[s] = second
		}
	}
	return done
}

// P3.10: whatever truly happens lies between what is told, and both ends can happen.
func TestP3_10WhateverHappens(t *testing.T) {
	eachFloor(t, 400, api.SlipSlips, func(rnd *rand.Rand, f api.SlipFloor) {
		lists := sample.Dice(rnd.Intn).Roster(len(f.Slips))
		told, e := slip.Done(f, lists)
		if e != api.OK || len(told) != len(f.Slips) {
			t.Fatalf("Done of %v, %v: %v, %d", f, lists, told, e)
		}
		low := truly(f, lists, func(s api.Span) int { return s.Low })
		high := truly(f, lists, func(s api.Span) int { return s.High })
		some := truly(f, lists, func(s api.Span) int { return s.Low + rnd.Intn(s.High-s.Low+1) })
		for s, d := range told {
			if d != span(low[s], high[s]) || some[s] < d.Low || some[s] > d.High {
				t.Fatalf("Done of %v, %v: %v, but truly %v, from %v to %v", f, lists, told, some, low, high)
			}
		}
		for s := range f.Slips {
			takes, e := slip.Takes(f, s)
			done, _ := slip.Done(without(f, others(f, s)), roster(list(0)))
			if e != api.OK || len(done) != 1 || done[0] != takes {
				t.Fatalf("Takes of %v, %d: %v, %d, but Done %v", f, s, takes, e, done)
			}
		}
	})
}

// others is all slips but one.
func others(f api.SlipFloor, but int) []int {
	var slips []int
	for s := range f.Slips {
		if s != but {
			slips = append(slips, s)
		}
	}
	return slips
}

// better makes floors on which something is easier, if they are valid still.
func better(rnd *rand.Rand, f api.SlipFloor) []api.SlipFloor {
	var floors []api.SlipFloor
	for _, do := range []func(g *api.SlipFloor){
		func(g *api.SlipFloor) { g.Slips[rnd.Intn(len(g.Slips))].Until += 1 + rnd.Intn(50) },
		func(g *api.SlipFloor) { g.Far[rnd.Intn(len(g.Far))]-- },
		func(g *api.SlipFloor) { g.Step.High-- },
		func(g *api.SlipFloor) { g.Step.Low-- },
		func(g *api.SlipFloor) { g.Pick[rnd.Intn(len(g.Pick))].High-- },
		func(g *api.SlipFloor) { g.Pick[rnd.Intn(len(g.Pick))].Low-- },
		func(g *api.SlipFloor) { g.Carry++ },
		func(g *api.SlipFloor) { *g = without(*g, list(rnd.Intn(len(g.Slips)))) },
	} {
		g := clone(f)
		if do(&g); slip.Check(g) == api.OK {
			floors = append(floors, g)
		}
	}
	return floors
}

// needs is how many pickers are needed (6, if 5 are too few), and how many slips are late with each number of them.
func needs(f api.SlipFloor) []int {
	needed := []int{6}
	if lists, e := slip.Roster(f); e == api.OK {
		needed[0] = len(lists)
	}
	for pickers := 1; pickers <= api.SlipPickers; pickers++ {
		slips, _ := slip.Late(f, pickers)
		needed = append(needed, len(slips))
	}
	return needed
}

// P3.11: if something is easier no more pickers are needed, and no more slips are late; with more pickers no more.
func TestP3_11NoMoreIsNeeded(t *testing.T) {
	changed := 0
	eachFloor(t, 200, 7, func(rnd *rand.Rand, f api.SlipFloor) {
		if len(f.Slips) == 0 {
			return
		}
		before := needs(f)
		for pickers := 2; pickers <= api.SlipPickers; pickers++ {
			if before[pickers] > before[pickers-1] {
				t.Fatalf("of %v more slips are late with %d pickers: %v", f, pickers, before)
			}
		}
		for pickers := 1; pickers <= api.SlipPickers; pickers++ {
			if (before[pickers] == 0) != (pickers >= before[0]) {
				t.Fatalf("of %v Roster and Late tell different things: %v", f, before)
			}
		}
		for _, g := range better(rnd, f) {
			now := needs(g)
			for i := range now {
				if now[i] > before[i] {
					t.Fatalf("%v needs %v, but %v needs %v", f, before, g, now)
				}
			}
			if !slices.Equal(now, before) {
				changed++
			}
		}
	})
	if changed < 100 {
		t.Errorf("only %d floors were easier", changed)
	}
}

// P1: whatever the arguments are, each function returns, and with an error all else is zero.
func TestP1_AllArguments(t *testing.T) {
	floors := []api.SlipFloor{{}, example(), largest(), narrow()}
	for _, n := range extremes {
		for _, m := range extremes {
			floors = append(floors, with(far(n, m, m)), with(far(n, n, m)), with(step(n, m)), with(pick(1, n, m)), with(carry(n)), with(until(2, n)), with(lines(0, n, m)), with(lines(0, 1, 1, n, m)), with(lines(0, n, 1, m, 1)))
		}
	}
	for _, f := range floors {
		checkZero(t, askAll(f, usual()))
		for _, n := range extremes {
			for _, m := range extremes {
				q := question{n, m, tours(tour(n, m), tour(m, n, n, m)), roster(list(n), list(m, 0))}
				a := askAll(f, q)
				checkZero(t, a)
				if isSlip := 0 <= n && n < len(f.Slips); a.errnos[0] == api.OK && (a.errnos[2] == api.OK) != isSlip {
					t.Errorf("Tours of %v, %d: %d", f, n, a.errnos[2])
				}
				if isCrew := 1 <= m && m <= 5; a.errnos[0] == api.OK && (a.errnos[7] == api.OK) != isCrew {
					t.Errorf("Late of %v, %d: %d", f, m, a.errnos[7])
				}
			}
		}
	}
	for _, n := range extremes {
		for _, m := range extremes {
			if is, e := slip.IsTours(example(), 2, tours(tour(0, n, 1, m), tour(n, m), tour(0, 1, n, m))); is || e != api.OK {
				t.Errorf("IsTours of tours of %d and %d: %v, %d", n, m, is, e)
			}
		}
	}
	if is, e := slip.IsTours(example(), 2, tours(tour(0, math.MaxInt, 1, math.MaxInt, 2, 3))); is || e != api.OK {
		t.Errorf("IsTours of pieces that are no number together: %v, %d", is, e)
	}
}

// checkZero checks that with an error each other result is zero, and that a wrong floor has its error everywhere.
func checkZero(t *testing.T, a answers) {
	t.Helper()
	isZero := [9]bool{true, !a.is, len(a.tours) == 0, a.numbers[0] == 0, a.takes == api.Span{}, len(a.done) == 0, len(a.roster) == 0, len(a.late) == 0, a.numbers[1] == 0}
	for i, e := range a.errnos {
		if e != api.OK && !isZero[i] || a.errnos[0] != api.OK && e != api.ErrSlip {
			t.Errorf("with the errors %v: %v", a.errnos, a)
		}
	}
}

// P2: the same arguments have the same result, whatever was called before.
func TestP2_SameArgumentsSameResult(t *testing.T) {
	want := askAll(example(), usual())
	eachFloor(t, 200, api.SlipSlips, func(rnd *rand.Rand, f api.SlipFloor) {
		q := question{rnd.Intn(api.SlipSlips), 1 + rnd.Intn(5), tours(tour(0, 1)), sample.Dice(rnd.Intn).Roster(len(f.Slips))}
		one, other := askAll(f, q), askAll(clone(f), q)
		checkZero(t, one)
		if !reflect.DeepEqual(one, other) {
			t.Fatalf("of %v, %v: %v, then %v", f, q, one, other)
		}
		if got := askAll(example(), usual()); !reflect.DeepEqual(got, want) {
			t.Fatalf("of the example after %v: %v, not %v", f, got, want)
		}
	})
}
