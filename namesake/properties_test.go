package namesake_test

import (
	"reflect"
	"slices"
	"testing"

	"wishbook/api"
	"wishbook/namesake"
	"wishbook/sample"
)

// P8.1: all lists of letters: whether they can be of one person, as the definition says.
func TestP8_1AllLetters(t *testing.T) {
	are := map[bool]int{}
	eachBook(t, 300, api.NamesakeLetters, func(d sample.Dice, b api.NamesakeBook) {
		for set := 1; set < 1<<len(b.Letters); set++ {
			letters := members(set)
			want := plainIsOne(b, letters)
			are[want]++
			if got, e := namesake.IsOne(b, letters); got != want || e != api.OK {
				t.Fatalf("IsOne of %v, %v: %v, %d", b, letters, got, e)
			}
		}
	})
	if are[true] < 3000 || are[false] < 3000 {
		t.Errorf("letters of one person, and others: %v", are)
	}
}

// P8.1, P8.2: all lists of people of small books: whether they are truths, as the definition says, and how many.
func TestP8_2AllPeople(t *testing.T) {
	are := map[bool]int{}
	eachBook(t, 300, 5, func(d sample.Dice, b api.NamesakeBook) {
		many := 0
		eachList(len(b.Letters), len(b.Letters), func(people []int) {
			want := plainIsTruth(b, people)
			are[want]++
			if want {
				many++
			}
			if got, e := namesake.IsTruth(b, people); got != want || e != api.OK {
				t.Fatalf("IsTruth of %v, %v: %v, %d", b, people, got, e)
			}
		})
		if got, e := namesake.Many(b); got != many || e != api.OK {
			t.Fatalf("Many of %v: %d, %d, not %d", b, got, e, many)
		}
	})
	if are[true] < 500 {
		t.Errorf("truths, and others: %v", are)
	}
}

// P8.2, P8.3, P8.10: how many truths there are, and the first one with the fewest people of all.
func TestP8_10Fewest(t *testing.T) {
	var met struct{ none, one, several, notFirst int }
	eachBook(t, 1500, api.NamesakeLetters, func(d sample.Dice, b api.NamesakeBook) {
		truths := plainTruths(b)
		if got, e := namesake.Many(b); got != len(truths) || e != api.OK {
			t.Fatalf("Many of %v: %d, %d, not %d", b, got, e, len(truths))
		}
		fewest, e := namesake.Fewest(b)
		first, f := namesake.First(b)
		if len(truths) == 0 {
			met.none++
			if fewest != 0 || len(first) > 0 || e != api.ErrNamesakeFalse || f != e {
				t.Fatalf("of %v: %d, %d, %v, %d, but there is no truth", b, fewest, e, first, f)
			}
			return
		}
		want := truths[0]
		for _, people := range truths {
			if peopleOf(people) < peopleOf(want) {
				want = people
			}
		}
		switch {
		case len(truths) == 1:
			met.one++
		case !slices.Equal(want, truths[0]):
			met.notFirst++
		default:
			met.several++
		}
		if fewest != peopleOf(want) || !slices.Equal(first, want) || e != api.OK || f != api.OK {
			t.Fatalf("of %v: %d, %d, %v, %d, not %v", b, fewest, e, first, f, want)
		}
	})
	if met.none < 50 || met.one < 50 || met.several < 50 || met.notFirst < 5 {
		t.Errorf("too few books of some kind: %v", met)
	}
}

// knownOf is what all truths say of two letters.
func knownOf(truths [][]int, one, other int) int {
	switch together(truths, one, other) {
	case 0:
		return api.NamesakeNo
	case len(truths):
		return api.NamesakeYes
	}
	return api.NamesakeMay
}

// joinedOf is the letters as lists of those that are of one person in all truths.
func joinedOf(truths [][]int) [][]int {
	var lists [][]int
	for letter := range truths[0] {
		var others []int
		for other := range truths[0] {
			if together(truths, letter, other) == len(truths) {
				others = append(others, other)
			}
		}
		if others[0] == letter {
			lists = append(lists, others)
		}
	}
	return lists
}

// P8.4, P8.8: what is told of two letters is so in all truths, and letters are joined only if no truth keeps them apart.
func TestP8_8WhoWroteWhat(t *testing.T) {
	var known [3]int
	apart := 0 // letters that are joined with others, but not with those between
	eachBook(t, 600, api.NamesakeLetters, func(d sample.Dice, b api.NamesakeBook) {
		truths := plainTruths(b)
		joined, e := namesake.Joined(b)
		if len(truths) == 0 {
			if same, f := namesake.Same(b, 0, 0); same != 0 || f != api.ErrNamesakeFalse || len(joined) > 0 || e != f {
				t.Fatalf("of %v: %d, %d, %v, %d, but there is no truth", b, same, f, joined, e)
			}
			return
		}
		for one := range b.Letters {
			for other := range b.Letters {
				want := knownOf(truths, one, other)
				known[want]++
				if got, e := namesake.Same(b, one, other); got != want || e != api.OK {
					t.Fatalf("Same of %v, %d, %d: %d, %d, not %d", b, one, other, got, e, want)
				}
			}
		}
		want := joinedOf(truths)
		if !slices.EqualFunc(joined, want, slices.Equal) || e != api.OK {
			t.Fatalf("Joined of %v: %v, %d, not %v", b, joined, e, want)
		}
		for i := range len(want) - 1 {
			if slices.Max(want[i]) > want[i+1][0] {
				apart++
				break
			}
		}
	})
	if slices.Min(known[:]) < 1000 || apart < 20 {
		t.Errorf("what is known of letters: %v, and %d books with others between", known, apart)
	}
}

// P8.8: whatever is true, it is among what is told: truths are made first, and then books that say no more than they allow.
func TestP8_8WhatIsTrue(t *testing.T) {
	tested := 0
	eachBook(t, 600, api.NamesakeLetters, func(d sample.Dice, b api.NamesakeBook) {
		people := make([]int, len(b.Letters))
		next := 0
		for i := range people {
			people[i] = d(next + 1)
			next = max(next, people[i]+1)
		}
		b.Most = min(8, next+d(2))
		b.Apart = slices.DeleteFunc(b.Apart, func(p [2]int) bool { return people[p[0]] == people[p[1]] })
		for i := range b.Letters {
			b.Letters[i].Born = sample.Span(max(0, 20*people[i]-d(30)), 20*people[i]+d(30))
			b.Letters[i].Dead = b.Letters[i].Dead && !slices.Contains(people[i+1:], people[i])
			b.Letters[i].Account = []int{0, 1 + people[i], 101 + people[i]}[d(3)]
		}
		for person := range next {
			letters := wroteAll(people, person)
			for k := range len(letters) - 1 {
				one, other := b.Letters[letters[k]], b.Letters[letters[k+1]]
				way := &b.Far[one.Place][other.Place]
				*way = min(*way, other.Day-one.Day)
			}
		}
		if is, e := namesake.IsTruth(b, people); !is || e != api.OK {
			t.Fatalf("IsTruth of %v, %v: %v, %d", b, people, is, e)
		}
		for one := range people {
			for other := range people {
				same, e := namesake.Same(b, one, other)
				isSame := people[one] == people[other]
				if e != api.OK || isSame && same == api.NamesakeNo || !isSame && same == api.NamesakeYes {
					t.Fatalf("Same of %v, %d, %d: %d, %d, but truly %v", b, one, other, same, e, people)
				}
			}
		}
		fewest, e := namesake.Fewest(b)
		if fewest > next || e != api.OK {
			t.Fatalf("Fewest of %v: %d, %d, but truly %v", b, fewest, e, people)
		}
		if fewest < next {
			tested++
		}
	})
	if tested < 100 {
		t.Errorf("only %d books that do not say all", tested)
	}
}

// P8.9: with one letter more, behind all others, what was sure stays so.
func TestP8_9OneLetterMore(t *testing.T) {
	var sure, more int
	eachBook(t, 600, api.NamesakeLetters-1, func(d sample.Dice, b api.NamesakeBook) {
		after := clone(b)
		after.Letters = append(after.Letters, someLetter(d, b))
		if d(2) == 0 && len(after.Apart) < 8 {
			after.Apart = append(after.Apart, [2]int{d(len(b.Letters)), len(b.Letters)})
		}
		if many, e := namesake.Many(after); many == 0 || e != api.OK {
			return
		}
		for other := range b.Letters {
			for one := range other {
				before, e := namesake.Same(b, one, other)
				now, f := namesake.Same(after, one, other)
				if e != api.OK || f != api.OK || before != api.NamesakeMay && now != before {
					t.Fatalf("Same of %v, %d, %d: %d, %d, and with a letter more %d, %d", after, one, other, before, e, now, f)
				}
				if before != api.NamesakeMay {
					sure++
				} else if now != before {
					more++
				}
			}
		}
	})
	if sure < 500 || more < 20 {
		t.Errorf("what was sure: %d, what has become so: %d", sure, more)
	}
}

// easier makes books in which less keeps letters apart, if they are valid still.
func easier(d sample.Dice, b api.NamesakeBook) []api.NamesakeBook {
	var books []api.NamesakeBook
	for _, do := range []func(g *api.NamesakeBook){
		func(g *api.NamesakeBook) { g.Most++ },
		func(g *api.NamesakeBook) { g.Letters[d(len(g.Letters))].Born.Low-- },
		func(g *api.NamesakeBook) { g.Letters[d(len(g.Letters))].Born.High += 1 + d(4) },
		func(g *api.NamesakeBook) { g.Far[d(len(g.Far))][d(len(g.Far))]-- },
		func(g *api.NamesakeBook) { g.Far[0][len(g.Far)-1] = 0 },
		func(g *api.NamesakeBook) {
			if i := d(len(g.Apart) + 1); i < len(g.Apart) {
				g.Apart = slices.Delete(g.Apart, i, i+1)
			}
		},
	} {
		g := clone(b)
		if do(&g); namesake.Check(g) == api.OK {
			books = append(books, g)
		}
	}
	return books
}

// P8.9: if less keeps letters apart there are no fewer truths, and those that there were are truths still.
func TestP8_9NoFewerTruths(t *testing.T) {
	more := 0
	eachBook(t, 400, 6, func(d sample.Dice, b api.NamesakeBook) {
		truths := plainTruths(b)
		for _, g := range easier(d, b) {
			many, e := namesake.Many(g)
			if many < len(truths) || e != api.OK {
				t.Fatalf("Many of %v: %d, %d, but of %v %d", g, many, e, b, len(truths))
			}
			for _, people := range truths {
				if is, e := namesake.IsTruth(g, people); !is || e != api.OK {
					t.Fatalf("IsTruth of %v, %v: %v, %d, but it is one of %v", g, people, is, e, b)
				}
			}
			if many > len(truths) {
				more++
			}
		}
	})
	if more < 100 {
		t.Errorf("only %d books have more truths", more)
	}
}

// P8.5, P8.11: no other question leaves fewer truths at the worst, nor as many, and comes before it; the one that is told leaves fewer than there are.
func TestP8_11TheQuestion(t *testing.T) {
	var met struct{ none, one, yes, no, later int }
	eachBook(t, 2000, api.NamesakeLetters, func(d sample.Dice, b api.NamesakeBook) {
		truths := plainTruths(b)
		one, other, e := namesake.Ask(b)
		if len(truths) < 2 {
			want := api.ErrNone
			if len(truths) == 0 {
				want = api.ErrNamesakeFalse
				met.none++
			} else {
				met.one++
			}
			if one != 0 || other != 0 || e != want {
				t.Fatalf("Ask of %v: %d, %d, %d, not %d", b, one, other, e, want)
			}
			return
		}
		if one < 0 || one >= other || other >= len(b.Letters) || e != api.OK {
			t.Fatalf("Ask of %v: %d, %d, %d", b, one, other, e)
		}
		told := atWorst(truths, one, other)
		for second := range b.Letters {
			for first := range second {
				left := atWorst(truths, first, second)
				isBefore := slices.Compare(list(first, second), list(one, other)) < 0
				if left < told || left == told && isBefore || told >= len(truths) {
					t.Fatalf("Ask of %v: %d, %d, which leaves %d of %d, but %d, %d leaves %d", b, one, other, told, len(truths), first, second, left)
				}
				if isBefore && left < len(truths) {
					met.later++
				}
			}
		}
		if yes := together(truths, one, other); 2*yes > len(truths) {
			met.yes++
		} else if 2*yes < len(truths) {
			met.no++
		}
	})
	if met.none < 50 || met.one < 50 || met.yes < 3 || met.no < 50 || met.later < 50 {
		t.Errorf("too few books of some kind: %v", met)
	}
}

// P8.6, P8.12: without the letters that are told there is a truth; without fewer, or as many that come before them, there is none.
func TestP8_12LettersThatCannotBe(t *testing.T) {
	many := map[int]int{}
	eachBook(t, 800, 7, func(d sample.Dice, b api.NamesakeBook) {
		b.Most = 1 + d(2)
		told, e := namesake.Torn(b)
		many[len(told)]++
		if is := len(plainTruths(b)) > 0; is != (e == api.ErrNone) || is != (len(told) == 0) || !is && e != api.OK {
			t.Fatalf("Torn of %v: %v, %d", b, told, e)
		}
		if len(told) == 0 {
			return
		}
		if without := gone(b, told); len(plainTruths(without)) == 0 {
			t.Fatalf("Torn of %v: %v, without which there is no truth", b, told)
		}
		for set := range 1<<len(b.Letters) - 1 {
			letters := members(set)
			if len(letters) > len(told) || len(letters) == len(told) && slices.Compare(letters, told) >= 0 {
				continue
			}
			if without := gone(b, letters); len(plainTruths(without)) > 0 {
				t.Fatalf("Torn of %v: %v, but without %v there is a truth", b, told, letters)
			}
		}
	})
	if many[0] < 50 || many[1] < 50 || many[2] < 50 || many[3] < 20 {
		t.Errorf("how many letters are torn: %v", many)
	}
}

func usual() question {
	return question{sample.Roomy(list(0, 2, 3), -1), sample.Roomy(list(0, 1, 0, 0, 1), -1), 0, 2}
}

// P8.7: arguments are only read, also where there is free room behind them.
func TestP8_7ArgumentsAreOnlyRead(t *testing.T) {
	for _, do := range []func(b *api.NamesakeBook){func(b *api.NamesakeBook) {}, most(1), apart([2]int{1, 2}, [2]int{2, 4})} {
		b, q := clone(changed(do)), usual()
		if a := askAll(b, q); !a.isOne || a.errnos.same != api.OK && a.errnos.torn != api.OK {
			t.Fatalf("an error: %v", a)
		}
		if !reflect.DeepEqual(b, clone(changed(do))) || !reflect.DeepEqual(q, usual()) {
			t.Errorf("an argument was changed: %v, %v", b, q)
		}
		n := len(b.Apart)
		if b.Letters[:6][5].Day != -1 || b.Far[:3][2] != nil || b.Apart[:n+1][n] != [2]int{-1, -1} || q.letters[:4][3] != -1 || q.people[:6][5] != -1 {
			t.Errorf("something was written behind a list: %v, %v", b, q)
		}
		for _, row := range b.Far {
			if row[:3][2] != -1 {
				t.Errorf("something was written behind the row %v", row[:3])
			}
		}
	}
}

// P8.7: arguments are not retained, and results are new memory, each list its own.
func TestP8_7ResultsAreNewMemory(t *testing.T) {
	b, q := clone(example()), usual()
	want, got := askAll(b, q), askAll(b, q)
	for i, l := range got.joined {
		clear(l[:cap(l)])
		for k, other := range got.joined {
			if k > i && !slices.Equal(other, want.joined[k]) {
				t.Errorf("two lists of joined letters share memory: %v", got.joined)
			}
		}
	}
	clear(got.joined[:cap(got.joined)])
	clear(got.first[:cap(got.first)])
	if again := askAll(b, q); !reflect.DeepEqual(again, want) {
		t.Errorf("after results were changed: %v, not %v", again, want)
	}
	no := clone(changed(most(1)))
	torn, _ := namesake.Torn(no)
	clear(torn[:cap(torn)])
	if again, _ := namesake.Torn(no); !slices.Equal(again, list(1, 4)) {
		t.Errorf("Torn, after a result was changed: %v", again)
	}
	held, before := askAll(b, q), askAll(clone(example()), usual())
	b.Letters[3].Account, b.Far[0][1], b.Most = 0, 0, 8
	q.letters[0], q.people[0] = 1, 1
	if !reflect.DeepEqual(held, before) {
		t.Errorf("after the arguments were changed: %v, not %v", held, before)
	}
	if reflect.DeepEqual(askAll(b, usual()), before) {
		t.Errorf("a changed book answers as before: %v", before)
	}
}

// P1: whatever the arguments are, each function returns, and with an error all else is zero.
func TestP1_AllArguments(t *testing.T) {
	books := []api.NamesakeBook{{}, example(), largest(), free(8, 8), free(8, 1), tornBook(8, 8)}
	for _, n := range extremes {
		for _, m := range extremes {
			for _, do := range []func(b *api.NamesakeBook){
				most(n), apart([2]int{n, m}), apart([2]int{0, 1}, [2]int{n, m}), with(4, letter(n, m, 0, 9)), with(4, letter(40, 0, n, m)), with(4, named(letter(m, 0, 0, n), n)),
				ways(list(0, n), list(m, 0)), ways(list(n, m), list(m, n)), ways(list(n)), ways(nil, list(n, m)),
				func(b *api.NamesakeBook) { b.Letters = append(b.Letters, letter(n, m, n, m)); b.Most = m },
			} {
				books = append(books, changed(do))
			}
		}
	}
	for _, b := range books {
		for _, n := range extremes {
			for _, q := range []question{{list(n), list(n), n, 0}, {list(0, n), list(0, n, n, 0, n), 0, n}, {nil, nil, n, n}, {list(0, 1, 2, 3, 4, 5, 6, 7, n), list(0, 1, 2, 3, 4, 5, 6, 7, n), 1, 2}} {
				a := askAll(b, q)
				e := a.errnos
				if !a.areZero() || a.check != api.OK && (a.check != api.ErrNamesake || e.isOne != a.check || e.torn != a.check) {
					t.Fatalf("of %v, %v: %v", b, q, a)
				}
			}
		}
	}
}

// P1: very long lists.
func TestP1_LongLists(t *testing.T) {
	for _, l := range [][]int{slices.Repeat(list(0), 1<<20), slices.Repeat(list(0, 1, 2, 3), 1<<20)} {
		if is, e := namesake.IsOne(example(), l); is || e != api.ErrNamesakeAsk {
			t.Errorf("IsOne of %d letters: %v, %d", len(l), is, e)
		}
		if is, e := namesake.IsTruth(example(), l); is || e != api.OK {
			t.Errorf("IsTruth of %d people: %v, %d", len(l), is, e)
		}
	}
	for _, b := range []api.NamesakeBook{
		free(1<<20, 8), changed(apart(slices.Repeat(pairs([2]int{0, 1}), 1<<20)...)), changed(ways(slices.Repeat(lists(list(0, 1)), 1<<20)...)), changed(ways(list(0, 1), make([]int, 1<<20))),
	} {
		if a := askAll(b, usual()); a.check != api.ErrNamesake || a.errnos.torn != api.ErrNamesake || !a.areZero() {
			t.Errorf("of a book of %d letters, %d pairs and %d places: %v", len(b.Letters), len(b.Apart), len(b.Far), a)
		}
	}
}

// P2: the same arguments have the same result, whatever was called before.
func TestP2_SameArgumentsSameResult(t *testing.T) {
	want := askAll(example(), usual())
	eachBook(t, 300, api.NamesakeLetters, func(d sample.Dice, b api.NamesakeBook) {
		letters := members(1 + d(1<<len(b.Letters)-1))
		q := question{letters, sample.Dice(d).Order(len(b.Letters)), d(len(b.Letters)), d(len(b.Letters))}
		one, other := askAll(b, q), askAll(clone(b), q)
		if !one.areZero() || !reflect.DeepEqual(one, other) {
			t.Fatalf("of %v, %v: %v, then %v", b, q, one, other)
		}
		if got := askAll(example(), usual()); !reflect.DeepEqual(got, want) {
			t.Fatalf("of the example after %v: %v, not %v", b, got, want)
		}
	})
}
