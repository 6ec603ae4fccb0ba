package shell

import (
	"iter"
	"strings"
)

const (
	blank   = " "
	comment = "#"
)

// line is one that is answered: as it stands, and its words.
type line struct {
	whole string
	words []string
}

// lines goes through those of a script that are answered.
func lines(script string) iter.Seq[line] {
	return func(yield func(line) bool) {
		for whole := range strings.SplitSeq(script, "\n") {
			words := strings.FieldsFunc(whole, isBlank)
			if len(words) > 0 && !strings.HasPrefix(words[0], comment) && !yield(line{whole, words}) {
				return
			}
		}
	}
}

// isBlank is of the byte 32 alone; no other byte of a line ends a word.
func isBlank(r rune) bool { return r == ' ' }

// behind is all that stands behind the blank that ends so many words.
func (l line) behind(many int) string {
	rest := l.whole
	for range many {
		_, rest, _ = strings.Cut(strings.TrimLeft(rest, blank), blank)
	}
	return rest
}
