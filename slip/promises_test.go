package slip_test

import (
	"slices"
	"testing"

	"wishbook/api"
	"wishbook/slip"
)

// change makes another floor of the example.
type change struct {
	name string
	do   func(f *api.SlipFloor)
}

func with(changes ...func(f *api.SlipFloor)) api.SlipFloor {
	f := example()
	for _, do := range changes {
		do(&f)
	}
	return f
}

func far(list ...int) func(f *api.SlipFloor) {
	return func(f *api.SlipFloor) { f.Far = list }
}

func step(low, high int) func(f *api.SlipFloor) {
	return func(f *api.SlipFloor) { f.Step = span(low, high) }
}

func pick(shelf, low, high int) func(f *api.SlipFloor) {
	return func(f *api.SlipFloor) { f.Pick[shelf] = span(low, high) }
}

func carry(n int) func(f *api.SlipFloor) {
	return func(f *api.SlipFloor) { f.Carry = n }
}

func lines(s int, numbers ...int) func(f *api.SlipFloor) {
	return func(f *api.SlipFloor) { f.Slips[s].Lines = tour(numbers...) }
}

func until(s, second int) func(f *api.SlipFloor) {
	return func(f *api.SlipFloor) { f.Slips[s].Until = second }
}

func slips(list ...api.SlipSlip) func(f *api.SlipFloor) {
	return func(f *api.SlipFloor) { f.Slips = list }
}

func wrongFloors() []change {
	return []change{
		{"nothing", func(f *api.SlipFloor) { *f = api.SlipFloor{} }},
		{"no shelves", func(f *api.SlipFloor) { f.Far, f.Pick, f.Slips = nil, nil, nil }},
		{"empty lists of shelves", func(f *api.SlipFloor) { f.Far, f.Pick, f.Slips = []int{}, []api.Span{}, nil }},
		{"13 shelves", func(f *api.SlipFloor) {
			*f = largest()
			f.Far = append(f.Far, 500)
			f.Pick = append(f.Pick, span(0, 0))
		}},
		{"a shelf nearer than 0", far(-1, 25, 40)},
		{"a shelf farther than 500", far(10, 25, 501)},
		{"a shelf nearer than the one before it", far(10, 40, 39)},
		{"a second shelf nearer than the first one", far(10, 9, 40)},
		{"a span less", func(f *api.SlipFloor) { f.Pick = f.Pick[:2] }},
		{"no spans", func(f *api.SlipFloor) { f.Pick = nil }},
		{"a span more", func(f *api.SlipFloor) { f.Pick = append(f.Pick, span(1, 1)) }},
		{"a shelf less", func(f *api.SlipFloor) { f.Far, f.Slips = f.Far[:2], nil }},
		{"a piece that takes less than 0", pick(0, -1, 8)},
		{"a piece that takes more than 300", pick(2, 10, 301)},
		{"no span of a piece", pick(1, 8, 7)},
		{"a step that takes 0", step(0, 2)},
		{"a step that takes 11", step(1, 11)},
		{"no span of a step", step(2, 1)},
		{"nothing can be carried", carry(0)},
		{"carrying less than 0", carry(-1)},
		{"carrying 21", carry(21)},
		{"10 slips", func(f *api.SlipFloor) { *f = largest(); f.Slips = append(f.Slips, f.Slips[0]) }},
		{"a slip until -1", until(0, -1)},
		{"a slip until 100001", until(3, 100001)},
		{"a slip without lines", lines(3)},
		{"a slip with an empty list of lines", func(f *api.SlipFloor) { f.Slips[1].Lines = []api.SlipLine{} }},
		{"the shelf -1", lines(0, -1, 2, 2, 3)},
		{"a shelf too many", lines(0, 0, 2, 3, 3)},
		{"a shelf too many of the last slip", lines(3, 3, 1)},
		{"equal shelves", lines(0, 0, 2, 0, 3)},
		{"a lesser shelf behind", lines(0, 2, 3, 0, 2)},
		{"no pieces", lines(0, 0, 0, 2, 3)},
		{"pieces below 0", lines(0, 0, 2, 2, -1)},
		{"21 pieces", lines(2, 0, 21)},
		{"13 lines", func(f *api.SlipFloor) { *f = largest(); f.Slips[8].Lines = append(f.Slips[8].Lines, tour(12, 1)...) }},
	}
}

func rightFloors() []change {
	return []change{
		{"the example", func(f *api.SlipFloor) {}},
		{"the largest", func(f *api.SlipFloor) { *f = largest() }},
		{"no slips", slips()},
		{"an empty list of slips", slips([]api.SlipSlip{}...)},
		{"one shelf at the desk", func(f *api.SlipFloor) { *f = narrow() }},
		{"equal shelves", far(40, 40, 40)},
		{"the nearest and the farthest shelf", far(0, 0, 500)},
		{"pieces that take no time", pick(1, 0, 0)},
		{"pieces that take up to 300", pick(1, 0, 300)},
		{"pieces that take 300", pick(1, 300, 300)},
		{"steps from 1 to 10", step(1, 10)},
		{"carrying 1", carry(1)},
		{"carrying 20", carry(20)},
		{"until 0", until(0, 0)},
		{"until 100000", until(0, 100000)},
		{"one piece, and 20", lines(0, 0, 1, 2, 20)},
		{"equal slips", slips(written(1, 0, 1), written(1, 0, 1))},
	}
}

// errorsOf returns the errors of all functions but Check, asked something that is wrong where this can be.
func errorsOf(t *testing.T, f api.SlipFloor) map[string]api.Errno {
	t.Helper()
	is, e1 := slip.IsTours(f, -1, nil)
	told, e2 := slip.Tours(f, -1)
	steps, e3 := slip.Steps(f, len(f.Slips))
	takes, e4 := slip.Takes(f, -1)
	done, e5 := slip.Done(f, nil)
	all, e6 := slip.Roster(f)
	none, e7 := slip.Late(f, 0)
	spare, e8 := slip.Spare(f, len(f.Slips))
	isZero := map[string]bool{"IsTours": !is, "Tours": len(told) == 0, "Steps": steps == 0, "Takes": takes == api.Span{}, "Done": len(done) == 0, "Roster": len(all) == 0, "Late": len(none) == 0, "Spare": spare == 0}
	errnos := map[string]api.Errno{"IsTours": e1, "Tours": e2, "Steps": e3, "Takes": e4, "Done": e5, "Roster": e6, "Late": e7, "Spare": e8}
	for name, e := range errnos {
		if e != api.OK && !isZero[name] {
			t.Errorf("%s: with the error %d a result is not zero", name, e)
		}
	}
	return errnos
}

// P3.1: which floors are valid, and that this error is the first one.
func TestP3_1Check(t *testing.T) {
	for _, c := range wrongFloors() {
		f := with(c.do)
		if e := slip.Check(f); e != api.ErrSlip {
			t.Errorf("%s: Check: %d", c.name, e)
		}
		for name, e := range errorsOf(t, f) {
			if e != api.ErrSlip {
				t.Errorf("%s: %s: %d", c.name, name, e)
			}
		}
	}
	for _, c := range rightFloors() {
		f := with(c.do)
		if e := slip.Check(f); e != api.OK {
			t.Errorf("%s: Check: %d", c.name, e)
		}
		for name, e := range errorsOf(t, f) {
			if name == "Roster" && e != api.OK && e != api.ErrNone || name != "Roster" && e != api.ErrSlipAsk {
				t.Errorf("%s: %s of what is wrong: %d", c.name, name, e)
			}
		}
	}
}

// P3.1: what are tours of a slip, and what are none.
func TestP3_1IsTours(t *testing.T) {
	for _, x := range []struct {
		name  string
		slip  int
		tours [][]api.SlipLine
		want  bool
	}{
		{"the fewest steps", 0, tours(tour(0, 1, 2, 3), tour(0, 1)), true},
		{"in another order", 0, tours(tour(0, 1), tour(0, 1, 2, 3)), true},
		{"more steps", 0, tours(tour(0, 2), tour(2, 3)), true},
		{"each piece by itself", 0, tours(tour(2, 1), tour(0, 1), tour(2, 1), tour(0, 1), tour(2, 1)), true},
		{"a tour too many pieces", 0, tours(tour(0, 2, 2, 3)), false},
		{"a line too many pieces", 3, tours(tour(1, 1), tour(2, 5), tour(2, 1)), false},
		{"just as many as can be carried", 3, tours(tour(1, 1, 2, 3), tour(2, 3)), true},
		{"a piece less", 0, tours(tour(0, 1), tour(2, 3)), false},
		{"a piece more", 0, tours(tour(0, 2), tour(2, 3), tour(0, 1)), false},
		{"a piece more of another shelf", 0, tours(tour(0, 2, 1, 1), tour(2, 3)), false},
		{"a piece of another shelf instead", 2, tours(tour(1, 1)), false},
		{"other pieces, together as many", 0, tours(tour(0, 3), tour(2, 2)), false},
		{"equal shelves in a tour", 0, tours(tour(0, 1, 0, 1), tour(2, 3)), false},
		{"a lesser shelf behind", 0, tours(tour(2, 3, 0, 1), tour(0, 1)), false},
		{"a line without pieces", 2, tours(tour(0, 1, 1, 0)), false},
		{"a line with pieces below 0", 2, tours(tour(0, 2), tour(0, -1)), false},
		{"a shelf below", 2, tours(tour(-1, 1, 0, 1)), false},
		{"a shelf too many", 2, tours(tour(0, 1, 3, 1)), false},
		{"a shelf that there never is", 2, tours(tour(0, 1, 12, 1)), false},
		{"no tours", 2, nil, false},
		{"an empty list of tours", 2, tours(), false},
		{"a tour without lines alone", 2, tours(nil), false},
		{"a tour without lines first", 0, tours(nil, tour(0, 1, 2, 3), tour(0, 1)), false},
		{"a tour without lines between", 0, tours(tour(0, 1, 2, 3), nil, tour(0, 1)), false},
		{"a tour without lines last", 0, tours(tour(0, 1, 2, 3), tour(0, 1), nil), false},
		{"a tour with an empty list of lines", 0, tours(tour(0, 1, 2, 3), []api.SlipLine{}, tour(0, 1)), false},
		{"tours without lines on both sides", 2, tours(nil, tour(0, 1), []api.SlipLine{}), false},
	} {
		if got, e := slip.IsTours(example(), x.slip, x.tours); got != x.want || e != api.OK {
			t.Errorf("%s: %v, %d", x.name, got, e)
		}
	}
	for _, s := range []int{-1, 4, 9} {
		if got, e := slip.IsTours(example(), s, tours(tour(0, 1))); got || e != api.ErrSlipAsk {
			t.Errorf("IsTours of the slip %d: %v, %d", s, got, e)
		}
	}
	if got, e := slip.IsTours(with(slips()), 0, nil); got || e != api.ErrSlipAsk {
		t.Errorf("IsTours without slips: %v, %d", got, e)
	}
}

// P3.2: steps, and how long they and the pieces take.
func TestP3_2StepsAndTakes(t *testing.T) {
	for _, x := range []struct {
		name  string
		f     api.SlipFloor
		slip  int
		steps int
		takes api.Span
	}{
		{"the slip 0", example(), 0, 100, span(140, 252)},
		{"the slip 1", example(), 1, 50, span(70, 140)},
		{"the slip 2", example(), 2, 20, span(25, 48)},
		{"the slip 3", example(), 3, 160, span(225, 402)},
		{"each piece by itself", with(carry(1)), 0, 280, span(320, 612)},
		{"all at once", with(carry(20)), 3, 80, span(145, 242)},
		{"a tour more for one piece", with(carry(6)), 3, 130, span(195, 342)},
		{"shelves that are equally far", with(far(40, 40, 40)), 0, 160, span(200, 372)},
		{"shelves at the desk", with(far(0, 0, 0)), 3, 0, span(65, 82)},
		{"a tour at the desk", with(far(0, 0, 40)), 0, 80, span(120, 212)},
		{"pieces that take no time", with(pick(0, 0, 0)), 2, 20, span(20, 40)},
		{"slow steps", with(step(10, 10)), 2, 20, span(205, 208)},
		{"the largest", largest(), 8, 240000, span(2472000, 2472000)},
	} {
		if got, e := slip.Steps(x.f, x.slip); got != x.steps || e != api.OK {
			t.Errorf("%s: Steps %d, %d, not %d", x.name, got, e, x.steps)
		}
		if got, e := slip.Takes(x.f, x.slip); got != x.takes || e != api.OK {
			t.Errorf("%s: Takes %v, %d, not %v", x.name, got, e, x.takes)
		}
	}
}

// P3.2: tours with the fewest steps.
func TestP3_2Tours(t *testing.T) {
	if got, e := slip.Tours(example(), 2); !slices.EqualFunc(got, tours(tour(0, 1)), slices.Equal) || e != api.OK {
		t.Errorf("Tours of 2: %v, %d", got, e)
	}
	for _, x := range []struct {
		name string
		f    api.SlipFloor
		slip int
		many int
	}{
		{"the slip 0", example(), 0, 2},
		{"the slip 1", example(), 1, 1},
		{"the slip 3", example(), 3, 2},
		{"each piece by itself", with(carry(1)), 0, 5},
		{"all at once", with(carry(20)), 3, 1},
		{"the largest", largest(), 0, 240},
	} {
		got, e := slip.Tours(x.f, x.slip)
		if len(got) != x.many || e != api.OK || !areTours(x.f, x.f.Slips[x.slip], got) {
			t.Errorf("%s: %v, %d", x.name, got, e)
		}
		if is, e := slip.IsTours(x.f, x.slip, got); !is || e != api.OK {
			t.Errorf("%s: IsTours of %v: %v, %d", x.name, got, is, e)
		}
	}
}

// P3.2: of what is no slip nothing is told.
func TestP3_2NoSlip(t *testing.T) {
	for _, x := range []struct {
		f    api.SlipFloor
		slip int
	}{{example(), -1}, {example(), 4}, {example(), 9}, {with(slips()), 0}, {largest(), 9}} {
		if got, e := slip.Tours(x.f, x.slip); len(got) > 0 || e != api.ErrSlipAsk {
			t.Errorf("Tours of %d: %v, %d", x.slip, got, e)
		}
		if got, e := slip.Steps(x.f, x.slip); got != 0 || e != api.ErrSlipAsk {
			t.Errorf("Steps of %d: %v, %d", x.slip, got, e)
		}
		if got, e := slip.Takes(x.f, x.slip); got != span(0, 0) || e != api.ErrSlipAsk {
			t.Errorf("Takes of %d: %v, %d", x.slip, got, e)
		}
	}
}

// P3.3: when the slips of a roster are done.
func TestP3_3Done(t *testing.T) {
	for _, x := range []struct {
		name   string
		f      api.SlipFloor
		roster [][]int
		want   []api.Span
		e      api.Errno
	}{
		{"two pickers", example(), roster(list(2, 1), list(0, 3)), []api.Span{span(140, 252), span(95, 188), span(25, 48), span(365, 654)}, api.OK},
		{"one picker", example(), roster(list(3, 2, 1, 0)), []api.Span{span(460, 842), span(320, 590), span(250, 450), span(225, 402)}, api.OK},
		{"pickers without slips", example(), roster(nil, list(0), list(1), list(), list(2, 3)), []api.Span{span(140, 252), span(70, 140), span(25, 48), span(250, 450)}, api.OK},
		{"no slips", with(slips()), roster(nil), nil, api.OK},
		{"no slips of 5 pickers", with(slips()), roster(nil, nil, nil, nil, nil), nil, api.OK},
		{"no slips of no pickers", with(slips()), nil, nil, api.ErrSlipAsk},
		{"no slips of 6 pickers", with(slips()), make([][]int, 6), nil, api.ErrSlipAsk},
		{"no pickers", example(), nil, nil, api.ErrSlipAsk},
		{"an empty list of pickers", example(), roster(), nil, api.ErrSlipAsk},
		{"6 pickers", example(), roster(list(0), list(1), list(2), list(3), nil, nil), nil, api.ErrSlipAsk},
		{"a slip less", example(), roster(list(2, 1), list(3)), nil, api.ErrSlipAsk},
		{"a slip twice on a list", example(), roster(list(2, 1, 2), list(0, 3)), nil, api.ErrSlipAsk},
		{"a slip on two lists", example(), roster(list(2, 1), list(0, 3, 2)), nil, api.ErrSlipAsk},
		{"a slip twice instead of another", example(), roster(list(2, 2), list(0, 3)), nil, api.ErrSlipAsk},
		{"the slip -1", example(), roster(list(2, 1, -1), list(0, 3)), nil, api.ErrSlipAsk},
		{"a slip too many", example(), roster(list(2, 1), list(0, 3, 4)), nil, api.ErrSlipAsk},
		{"a slip that there never is", example(), roster(list(2, 1), list(0, 3, 64)), nil, api.ErrSlipAsk},
		{"a slip of no slips", with(slips()), roster(list(0)), nil, api.ErrSlipAsk},
	} {
		if got, e := slip.Done(x.f, x.roster); !slices.Equal(got, x.want) || e != x.e {
			t.Errorf("%s: %v, %d, not %v, %d", x.name, got, e, x.want, x.e)
		}
	}
}

// nine is a floor of nine slips, which three pickers just have done in 50 seconds: 13, 18 and 19, 13, 17 and 20, 14, 16 and 20.
func nine(seconds int) api.SlipFloor {
	f := narrow()
	for _, many := range []int{13, 13, 14, 16, 17, 18, 19, 20, 20} {
		f.Slips = append(f.Slips, written(seconds, 0, many))
	}
	return f
}

// P3.4: a roster of the fewest pickers.
func TestP3_4Roster(t *testing.T) {
	alone := narrow(written(10, 0, 10), written(10, 0, 10), written(10, 0, 10), written(10, 0, 10), written(10, 0, 10))
	crowd := alone
	crowd.Slips = append(slices.Clone(alone.Slips), written(10, 0, 1))
	for _, x := range []struct {
		name string
		f    api.SlipFloor
		want int
		e    api.Errno
	}{
		{"the example", example(), 2, api.OK},
		{"just enough time for one", with(until(0, 842), until(1, 842), until(2, 842), until(3, 842)), 1, api.OK},
		{"a second less", with(until(0, 841), until(1, 841), until(2, 841), until(3, 841)), 2, api.OK},
		{"no slips", with(slips()), 1, api.OK},
		{"a slip that is too late by itself", with(until(3, 401)), 0, api.ErrNone},
		{"a slip that is just in time", with(until(3, 402)), 3, api.OK},
		{"5 pickers", alone, 5, api.OK},
		{"6 pickers would do", crowd, 0, api.ErrNone},
		{"until 0, with work", narrow(written(0, 0, 1)), 0, api.ErrNone},
		{"in an order that is not that of the slips", narrow(written(30, 0, 10), written(20, 0, 10), written(10, 0, 10)), 1, api.OK},
		{"the shorter slip later", narrow(written(11, 0, 1), written(10, 0, 10)), 1, api.OK},
		{"nine slips in 150 seconds", nine(150), 1, api.OK},
		{"nine slips in 149 seconds", nine(149), 2, api.OK},
		{"nine slips in 75 seconds", nine(75), 2, api.OK},
		{"nine slips in 74 seconds", nine(74), 3, api.OK},
		{"nine slips in 50 seconds", nine(50), 3, api.OK},
		{"nine slips in 49 seconds", nine(49), 4, api.OK},
		{"nine slips in 40 seconds", nine(40), 4, api.OK},
		{"nine slips in 39 seconds", nine(39), 5, api.OK},
		{"nine slips in 33 seconds", nine(33), 5, api.OK},
		{"nine slips in 32 seconds", nine(32), 0, api.ErrNone},
		{"the largest", largest(), 0, api.ErrNone},
	} {
		got, e := slip.Roster(x.f)
		if len(got) != x.want || e != x.e {
			t.Errorf("%s: %v, %d, not %d pickers, %d", x.name, got, e, x.want, x.e)
		}
		if e == api.OK && (!isRoster(x.f, got) || len(late(x.f, plainDone(plainTakes(x.f), got))) > 0) {
			t.Errorf("%s: %v is none, or is late", x.name, got)
		}
	}
	// Pieces at the desk that take no time are done in the second 0.
	f := narrow(written(0, 0, 20), written(0, 0, 20))
	f.Pick[0] = span(0, 0)
	if got, e := slip.Roster(f); len(got) != 1 || len(got[0]) != 2 || e != api.OK {
		t.Errorf("work that takes no time: %v, %d", got, e)
	}
}

// P3.5: the fewest slips that are late, and of several lists the first.
func TestP3_5Late(t *testing.T) {
	equal := narrow(written(10, 0, 10), written(10, 0, 10), written(10, 0, 10), written(10, 0, 10))
	for _, x := range []struct {
		name    string
		f       api.SlipFloor
		pickers int
		want    []int
		e       api.Errno
	}{
		{"one picker", example(), 1, list(0), api.OK},
		{"two pickers", example(), 2, nil, api.OK},
		{"5 pickers", example(), 5, nil, api.OK},
		{"no pickers", example(), 0, nil, api.ErrSlipAsk},
		{"pickers below 0", example(), -1, nil, api.ErrSlipAsk},
		{"6 pickers", example(), 6, nil, api.ErrSlipAsk},
		{"no slips", with(slips()), 1, nil, api.OK},
		{"equal slips, one picker", equal, 1, list(0, 1, 2), api.OK},
		{"equal slips, two pickers", equal, 2, list(0, 1), api.OK},
		{"equal slips, three pickers", equal, 3, list(0), api.OK},
		{"equal slips, four pickers", equal, 4, nil, api.OK},
		{"a slip that is too late by itself", with(until(3, 401)), 5, list(3), api.OK},
		{"all slips too late", largest(), 5, list(0, 1, 2, 3, 4, 5, 6, 7, 8), api.OK},
		{"one long slip, or two short ones", narrow(written(20, 0, 10), written(20, 0, 20), written(20, 0, 10)), 1, list(1), api.OK},
		{"the fewest slips, not the shortest", narrow(written(12, 0, 4), written(12, 0, 4), written(12, 0, 4), written(12, 0, 12)), 1, list(3), api.OK},
		{"the first list, not the longest slip", narrow(written(12, 0, 4), written(12, 0, 5), written(12, 0, 4)), 1, list(0), api.OK},
		{"the first one does not help", narrow(written(100, 0, 1), written(10, 0, 10), written(10, 0, 5)), 1, list(1), api.OK},
		{"nine slips, one picker", nine(50), 1, list(0, 1, 3, 5, 7, 8), api.OK},
		{"nine slips, two pickers", nine(50), 2, list(0, 4, 7), api.OK},
		{"nine slips, three pickers", nine(50), 3, nil, api.OK},
		{"nine slips, three pickers, a second less", nine(49), 3, list(0), api.OK},
	} {
		if got, e := slip.Late(x.f, x.pickers); !slices.Equal(got, x.want) || e != x.e {
			t.Errorf("%s: %v, %d, not %v, %d", x.name, got, e, x.want, x.e)
		}
	}
}

// P3.6: the least Until of a slip.
func TestP3_6Spare(t *testing.T) {
	free := narrow(written(7, 0, 20), written(0, 0, 20))
	free.Pick[0] = span(0, 0)
	for _, x := range []struct {
		name string
		f    api.SlipFloor
		slip int
		want int
		e    api.Errno
	}{
		{"the slip 0", example(), 0, 252, api.OK},
		{"the slip 1", example(), 1, 140, api.OK},
		{"the slip 2", example(), 2, 48, api.OK},
		{"the slip 3", example(), 3, 542, api.OK},
		{"the slip -1", example(), -1, 0, api.ErrSlipAsk},
		{"a slip too many", example(), 4, 0, api.ErrSlipAsk},
		{"a slip of no slips", with(slips()), 0, 0, api.ErrSlipAsk},
		{"no roster", with(until(3, 401)), 0, 0, api.ErrNone},
		{"no roster, and a slip too many", with(until(3, 401)), 4, 0, api.ErrSlipAsk},
		{"more pickers would be sooner", narrow(written(20, 0, 10), written(10, 0, 10)), 0, 20, api.OK},
		{"the only slip", narrow(written(100000, 0, 20)), 0, 20, api.OK},
		{"just in time", narrow(written(20, 0, 20)), 0, 20, api.OK},
		{"no time at all", free, 0, 0, api.OK},
		{"no time at all, and until 0", free, 1, 0, api.OK},
		{"before another one", narrow(written(30, 0, 10), written(40, 0, 10), written(30, 0, 10)), 1, 10, api.OK},
		{"behind two others", narrow(written(20, 0, 10), written(40, 0, 10), written(20, 0, 10)), 1, 30, api.OK},
		{"between two others", narrow(written(19, 0, 10), written(40, 0, 10), written(30, 0, 10)), 1, 20, api.OK},
	} {
		if got, e := slip.Spare(x.f, x.slip); got != x.want || e != x.e {
			t.Errorf("%s: %d, %d, not %d, %d", x.name, got, e, x.want, x.e)
		}
	}
}
