package choices_test

import (
	"slices"
	"testing"

	"wishbook/choices"
)

func all(list string, many int) []string {
	var found []string
	for chosen := range choices.Of([]byte(list), many) {
		found = append(found, string(chosen))
	}
	return found
}

func TestOf(t *testing.T) {
	for _, x := range []struct {
		list string
		many int
		want []string
	}{
		{"abcd", 0, []string{""}},
		{"abcd", 1, []string{"a", "b", "c", "d"}},
		{"abcd", 2, []string{"ab", "ac", "ad", "bc", "bd", "cd"}},
		{"abcd", 3, []string{"abc", "abd", "acd", "bcd"}},
		{"abcd", 4, []string{"abcd"}},
		{"abcd", 5, nil},
		{"abcd", -1, nil},
		{"dcba", 3, []string{"dcb", "dca", "dba", "cba"}},
		{"", 0, []string{""}},
		{"", 1, nil},
	} {
		if got := all(x.list, x.many); !slices.Equal(got, x.want) {
			t.Errorf("%d of %q: %q, not %q", x.many, x.list, got, x.want)
		}
	}
}

func TestOfLeavesTheRest(t *testing.T) {
	var found []string
	for chosen := range choices.Of([]byte("abcd"), 2) {
		if found = append(found, string(chosen)); len(found) == 4 {
			break
		}
	}
	if want := []string{"ab", "ac", "ad", "bc"}; !slices.Equal(found, want) {
		t.Errorf("the first 4: %q, not %q", found, want)
	}
}

func TestOfIsNewMemory(t *testing.T) {
	list := []byte("abcd")
	var kept [][]byte
	for chosen := range choices.Of(list, 2) {
		kept = append(kept, chosen)
	}
	for i, chosen := range kept {
		if want := all("abcd", 2)[i]; string(chosen) != want {
			t.Errorf("the choice %d: %q, not %q", i, chosen, want)
		}
		clear(chosen[:cap(chosen)])
	}
	if string(list) != "abcd" {
		t.Errorf("the list has become %q", list)
	}
}
