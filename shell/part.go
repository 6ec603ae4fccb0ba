package shell

import (
	"slices"
	"strconv"
)

const maxNumber = 1 << 62

// said is what the words of a line say, each kind in their order: numbers, which one of some words it is, words of any kind; and the text.
type said struct {
	numbers []int
	picks   []int
	words   []string
	text    string
}

// part reads a word; false: it is none such.
type part func(d *said, word string) bool

func of(l ...part) []part { return l }

func number(d *said, word string) bool {
	n, is := decimal(word)
	d.numbers = append(d.numbers, n)
	return is
}

func anyWord(d *said, word string) bool {
	d.words = append(d.words, word)
	return true
}

// oneOf is of some words: which one it is, from 1 on.
func oneOf(l ...string) part {
	return func(d *said, word string) bool {
		i := slices.Index(l, word)
		d.picks = append(d.picks, i+1)
		return i >= 0
	}
}

// decimal is a number that is written as it would be told; false: it is none, or greater than it may be.
func decimal(word string) (int, bool) {
	n, err := strconv.Atoi(word)
	return n, err == nil && n >= 0 && n <= maxNumber && strconv.Itoa(n) == word
}
