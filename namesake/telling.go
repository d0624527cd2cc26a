package namesake

import (
	"wishbook/api"
	"wishbook/lists"
	"wishbook/spans"
)

// letters is which letters of a book somebody wrote.
type letters [api.NamesakeLetters]bool

// numbers returns the letters, increasing.
func (l letters) numbers() []int { return lists.Where(l[:]) }

// telling is who wrote the first letters of a book.
type telling struct {
	book
	people []int
}

// before returns who wrote the letters before one.
func (t telling) before(letter int) telling {
	t.people = t.people[:letter:letter]
	return t
}

// with returns the telling with the next letter. Its list is copied, as others go on from it, too.
func (t telling) with(person int) telling {
	many := len(t.people)
	t.people = append(t.people[:many:many], person)
	return t
}

// by returns which of the letters a person wrote.
func (t telling) by(person int) letters {
	var wrote letters
	for letter, writer := range t.people {
		wrote[letter] = writer == person
	}
	return wrote
}

// canGoOn reports whether a person can have written the next letter, too.
func (t telling) canGoOn(person int) bool {
	wrote := t.by(person)
	if wrote == (letters{}) && person != manyOf(t.people) {
		return false
	}
	wrote[len(t.people)] = true
	return person < t.Most && t.keepsAccount(person) && hand{t.book, wrote.numbers()}.canBeOne()
}

// manyOf returns how many people there are, who are numbered from 0 on.
func manyOf(people []int) int { return spans.Greatest(-1, people...) + 1 }

// keepsAccount reports whether no other person named the account of the next letter.
func (t telling) keepsAccount(person int) bool {
	account := t.Letters[len(t.people)].Account
	for letter, writer := range t.people {
		if account != 0 && t.Letters[letter].Account == account && writer != person {
			return false
		}
	}
	return true
}

func (t telling) isTruth() bool {
	if len(t.people) != len(t.Letters) {
		return false
	}
	for letter, person := range t.people {
		if !t.before(letter).canGoOn(person) {
			return false
		}
	}
	return true
}
