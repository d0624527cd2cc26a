package sets_test

import (
	"slices"
	"testing"

	"wishbook/sets"
)

func TestNumbers(t *testing.T) {
	for _, x := range []struct {
		set     sets.Set
		members []int
	}{
		{0, nil}, {1, []int{0}}, {2, []int{1}}, {5, []int{0, 2}}, {6, []int{1, 2}}, {7, []int{0, 1, 2}}, {1<<30 | 1<<4, []int{4, 30}},
	} {
		if got := x.set.Members(); !slices.Equal(got, x.members) {
			t.Errorf("Members of %d: %v, not %v", x.set, got, x.members)
		}
		if got := x.set.Count(); got != len(x.members) {
			t.Errorf("Count of %d: %d, not %d", x.set, got, len(x.members))
		}
		if got := sets.Of(x.members...); got != x.set {
			t.Errorf("Of %v: %d, not %d", x.members, got, x.set)
		}
		backwards := slices.Clone(x.members)
		slices.Reverse(backwards)
		if got := sets.Of(append(backwards, x.members...)...); got != x.set {
			t.Errorf("Of %v, twice: %d, not %d", x.members, got, x.set)
		}
		for n := range 40 {
			is := slices.Contains(x.members, n)
			if got := x.set.Has(n); got != is {
				t.Errorf("Has %d %d: %v", x.set, n, got)
			}
			if with := x.set.With(n); !with.Has(n) || (with == x.set) != is || with.Without(sets.Of(n)).Has(n) {
				t.Errorf("With %d %d: %d", x.set, n, with)
			}
		}
	}
}

func TestBelow(t *testing.T) {
	for n, want := range []sets.Set{0, 1, 3, 7} {
		if got := sets.Below(n); got != want {
			t.Errorf("Below %d: %d, not %d", n, got, want)
		}
	}
}

func TestWithout(t *testing.T) {
	for one := range sets.Set(16) {
		for other := range sets.Set(16) {
			got := one.Without(other)
			for n := range 5 {
				if got.Has(n) != (one.Has(n) && !other.Has(n)) {
					t.Errorf("Without %d %d: %d", one, other, got)
				}
			}
		}
	}
}

func TestParts(t *testing.T) {
	for _, x := range []struct {
		set  sets.Set
		want []sets.Set
	}{
		{0, nil}, {1, []sets.Set{1}}, {2, []sets.Set{2}}, {5, []sets.Set{1, 4, 5}}, {7, []sets.Set{1, 2, 3, 4, 5, 6, 7}}, {10, []sets.Set{2, 8, 10}},
	} {
		if got := slices.Collect(x.set.Parts()); !slices.Equal(got, x.want) {
			t.Errorf("Parts of %d: %v, not %v", x.set, got, x.want)
		}
	}
}

func TestPartsLeavesTheRest(t *testing.T) {
	var found []sets.Set
	for part := range sets.Set(7).Parts() {
		if found = append(found, part); part == 3 {
			break
		}
	}
	if want := []sets.Set{1, 2, 3}; !slices.Equal(found, want) {
		t.Errorf("the first 3: %v, not %v", found, want)
	}
}

func TestMembersAreNewMemory(t *testing.T) {
	one := sets.Set(7).Members()
	clear(one[:cap(one)])
	if got := sets.Set(7).Members(); !slices.Equal(got, []int{0, 1, 2}) {
		t.Errorf("Members: %v", got)
	}
}
