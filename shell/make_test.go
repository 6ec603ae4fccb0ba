package shell_test

import (
	"math/rand"
	"strings"
	"testing"

	"spillway/shell"
)

// step is a line of a script, and what it answers: one line or more; nothing, if it is passed over.
type step struct{ line, answer string }

// does holds what each line of a script answers.
func does(t *testing.T, l ...step) {
	t.Helper()
	var script, want []string
	for _, s := range l {
		script = append(script, s.line)
		if s.answer != "" {
			want = append(want, s.answer)
		}
	}
	said := strings.Split(shell.Run(strings.Join(script, "\n")), "\n")
	if last := len(said) - 1; said[last] != "" {
		t.Errorf("the last answer, %q, ends with no line feed", said[last])
	}
	said = said[:len(said)-1]
	for _, s := range l {
		if s.answer == "" {
			continue
		}
		n := min(strings.Count(s.answer, "\n")+1, len(said))
		if is := strings.Join(said[:n], "\n"); is != s.answer {
			t.Fatalf("%.300q answers %.2000q, want %.2000q", s.line, is, s.answer)
		}
		said = said[n:]
	}
	if len(said) > 0 {
		t.Errorf("there are more answers: %q", said)
	}
}

// with is a script that begins with a platform of two programs.
func with(l ...step) []step { return append([]step{{"platform 2 16 1", "ok"}}, l...) }

// answers is what one line answers behind others.
func answers(ahead, line string) string {
	was := shell.Run(ahead)
	return strings.TrimPrefix(shell.Run(ahead+line+"\n"), was)
}

func pick[T any](r *rand.Rand, l ...T) T { return l[r.Intn(len(l))] }
