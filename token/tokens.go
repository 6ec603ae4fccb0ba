package token

import (
	"cmp"
	"maps"
	"slices"

	"spillway/api"
)

// tokens are those of all flows that are out, by their numbers.
type tokens struct {
	out   map[int]Token
	given int // numbers
}

func newTokens() *tokens { return &tokens{out: map[int]Token{}} }

func (t *tokens) fork() *tokens { return &tokens{out: maps.Clone(t.out), given: t.given} }

// forget lets go of those that are not out any more at a time.
func (t *tokens) forget(at int) {
	maps.DeleteFunc(t.out, func(_ int, one Token) bool { return !one.isOut(at) })
}

// areMost tells whether as many are out as may be.
func (t *tokens) areMost() bool { return len(t.out) >= api.MaxTokens }

// letOut lets one out, which gets a number.
func (t *tokens) letOut(one Token) int {
	t.given++
	one.Number = t.given
	t.out[one.Number] = one
	return one.Number
}

// giveBack takes one back that is of one of these flows; false: it is not out, or is of none of them.
func (t *tokens) giveBack(number int, l []Flow) bool {
	one, isOut := t.out[number]
	if _, isOf := find(l, one.Id); !isOut || !isOf {
		return false
	}
	delete(t.out, number)
	return true
}

// outAt are those that are out at a time, rising by their numbers.
func (t *tokens) outAt(at int) []Token {
	var l []Token
	for _, one := range t.out {
		if one.isOut(at) {
			l = append(l, one)
		}
	}
	slices.SortFunc(l, func(a, b Token) int { return cmp.Compare(a.Number, b.Number) })
	return l
}

func (k Token) isOut(at int) bool { return at < k.Until }
