package spans_test

import (
	"testing"

	"wishbook/api"
	"wishbook/spans"
)

// small is all pairs of small numbers, also those that are no spans.
func small() []api.Span {
	var list []api.Span
	for low := -1; low <= 4; low++ {
		for high := -1; high <= 4; high++ {
			list = append(list, api.Span{Low: low, High: high})
		}
	}
	return list
}

// members is which of the numbers from -1 to 4 lie in a span.
func members(s api.Span) (in [6]bool, count int) {
	for i := range in {
		if n := i - 1; s.Low <= n && n <= s.High {
			in[i] = true
			count++
		}
	}
	return in, count
}

func TestHasAndCount(t *testing.T) {
	for _, s := range small() {
		in, count := members(s)
		for i, want := range in {
			if got := spans.Has(s, i-1); got != want {
				t.Errorf("Has %v %d: %v", s, i-1, got)
			}
		}
		if got := spans.Count(s); count > 0 && got != count {
			t.Errorf("Count %v: %d, not %d", s, got, count)
		}
	}
	if one := spans.One(3); one != (api.Span{Low: 3, High: 3}) {
		t.Errorf("One 3: %v", one)
	}
}

func TestBelow(t *testing.T) {
	for n, want := range []api.Span{{Low: 0, High: -1}, {Low: 0, High: 0}, {Low: 0, High: 1}, {Low: 0, High: 2}} {
		if got := spans.Below(n); got != want {
			t.Errorf("Below %d: %v, not %v", n, got, want)
		}
	}
}

func TestTwoSpans(t *testing.T) {
	for _, one := range small() {
		here, count := members(one)
		for _, other := range small() {
			there, many := members(other)
			if got, want := spans.IsWithin(other, one), count > 0 && isPart(here, there); got != want {
				t.Errorf("IsWithin %v %v: %v", other, one, got)
			}
			if count == 0 || many == 0 {
				continue
			}
			if got, want := spans.Covers(other, one), isPart(here, there); got != want {
				t.Errorf("Covers %v %v: %v", other, one, got)
			}
			if got, want := spans.Meet(one, other), meets(here, there); got != want {
				t.Errorf("Meet %v %v: %v", one, other, got)
			}
			checkJoin(t, one, other)
			checkAdd(t, one, other)
		}
	}
}

func isPart(part, whole [6]bool) bool {
	for i := range part {
		if part[i] && !whole[i] {
			return false
		}
	}
	return true
}

func meets(one, other [6]bool) bool {
	for i := range one {
		if one[i] && other[i] {
			return true
		}
	}
	return false
}

// checkJoin checks that a joined span has both, and nothing before or behind them.
func checkJoin(t *testing.T, one, other api.Span) {
	t.Helper()
	got := spans.Join(one, other)
	if !spans.Covers(got, one) || !spans.Covers(got, other) {
		t.Errorf("Join %v %v: %v", one, other, got)
	}
	if got.Low != one.Low && got.Low != other.Low || got.High != one.High && got.High != other.High {
		t.Errorf("Join %v %v: %v", one, other, got)
	}
}

// checkAdd checks that two added spans have just the sums of their numbers.
func checkAdd(t *testing.T, one, other api.Span) {
	t.Helper()
	sums := map[int]bool{}
	for n := one.Low; n <= one.High; n++ {
		for m := other.Low; m <= other.High; m++ {
			sums[n+m] = true
		}
	}
	got := spans.Add(one, other)
	if !sums[got.Low] || !sums[got.High] || spans.Count(got) != len(sums) {
		t.Errorf("Add %v %v: %v", one, other, got)
	}
}

func TestEnds(t *testing.T) {
	s := api.Span{Low: -2, High: 5}
	if low, high := spans.Low(s), spans.High(s); low != -2 || high != 5 {
		t.Errorf("the ends of %v: %d, %d", s, low, high)
	}
}

func TestGreatest(t *testing.T) {
	for _, x := range []struct{ got, want int }{
		{spans.Greatest(3), 3}, {spans.Greatest(3, 1, 2), 3}, {spans.Greatest(1, 3, 2), 3}, {spans.Greatest(2, 1, 3), 3},
		{spans.Greatest(-1, 0), 0}, {spans.Greatest(0, -1), 0},
	} {
		if x.got != x.want {
			t.Errorf("Greatest: %d, not %d", x.got, x.want)
		}
	}
}

func TestLeast(t *testing.T) {
	for _, x := range []struct{ got, want int }{
		{spans.Least(3), 3}, {spans.Least(3, 1, 2), 1}, {spans.Least(1, 3, 2), 1}, {spans.Least(2, 3, 1), 1},
		{spans.Least(-1, 0), -1}, {spans.Least(0, -1), -1},
	} {
		if x.got != x.want {
			t.Errorf("Least: %d, not %d", x.got, x.want)
		}
	}
}
