package lists_test

import (
	"slices"
	"testing"

	"wishbook/api"
	"wishbook/lists"
)

func TestAre(t *testing.T) {
	isSmall := func(n int) bool { return n < 3 }
	for _, x := range []struct {
		many api.Span
		list []int
		want bool
	}{
		{api.Span{Low: 0, High: 2}, nil, true},
		{api.Span{Low: 0, High: 2}, []int{}, true},
		{api.Span{Low: 0, High: 2}, []int{1, 2}, true},
		{api.Span{Low: 0, High: 2}, []int{1, 2, 0}, false},
		{api.Span{Low: 0, High: 2}, []int{3, 2}, false},
		{api.Span{Low: 0, High: 2}, []int{2, 3}, false},
		{api.Span{Low: 0, High: 3}, []int{2, 3, 2}, false},
		{api.Span{Low: 1, High: 2}, nil, false},
		{api.Span{Low: 1, High: 2}, []int{2}, true},
		{api.Span{Low: 2, High: 2}, []int{2}, false},
	} {
		if got := lists.Are(x.many, x.list, isSmall); got != x.want {
			t.Errorf("Are %v %v: %v", x.many, x.list, got)
		}
	}
}

func TestAreAsksNothingOfTooMany(t *testing.T) {
	lists.Are(api.Span{Low: 0, High: 1}, []int{1, 2}, func(int) bool {
		t.Error("a thing of too many was asked about")
		return true
	})
}

func TestSum(t *testing.T) {
	length := func(text string) int { return len(text) }
	for _, x := range []struct {
		list []string
		want int
	}{
		{nil, 0}, {[]string{"abc"}, 3}, {[]string{"", "ab", "abc", "ab"}, 7},
	} {
		if got := lists.Sum(length, x.list...); got != x.want {
			t.Errorf("Sum of %q: %d, not %d", x.list, got, x.want)
		}
	}
}

func TestAreIncreasing(t *testing.T) {
	for _, x := range []struct {
		numbers []int
		want    bool
	}{
		{nil, true}, {[]int{}, true}, {[]int{7}, true}, {[]int{-3, 0, 1, 9}, true},
		{[]int{1, 1}, false}, {[]int{2, 1}, false}, {[]int{1, 2, 2}, false}, {[]int{1, 1, 2}, false}, {[]int{1, 3, 2}, false}, {[]int{1, 2, 0, 9}, false},
	} {
		if got := lists.AreIncreasing(x.numbers); got != x.want {
			t.Errorf("AreIncreasing %v: %v", x.numbers, got)
		}
	}
}

func TestWhere(t *testing.T) {
	for _, x := range []struct {
		are  []bool
		want []int
	}{
		{nil, nil}, {[]bool{false}, nil}, {[]bool{true}, []int{0}}, {[]bool{false, true, true, false, true}, []int{1, 2, 4}},
	} {
		if got := lists.Where(x.are); !slices.Equal(got, x.want) {
			t.Errorf("Where %v: %v, not %v", x.are, got, x.want)
		}
	}
}
