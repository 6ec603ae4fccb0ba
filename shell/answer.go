package shell

import (
	"strconv"
	"strings"

	"spillway/api"
	"spillway/platform"
)

// The answers that are one word.
const (
	fine    = "ok"
	noWord  = "word"
	noThing = "none"
	tooLong = "long"
)

// kinds are the words for token's kinds of flows, modes those for platform's modes, in order from 1 on.
func kinds() []string { return []string{"rate", "value", "lease"} }

func modes() []string { return []string{"local", "client", "server"} }

// reasons are the words for why a call was blocked, in the order of api's, from 1 on.
func reasons() []string { return []string{"list", "system", "hot", "flow", "breaker"} }

// told is what a call has told: an error, with its place in the text, if the call tells one.
func told(e api.Errno, place ...int) string {
	if e == api.OK {
		return fine
	}
	return "error " + joined(append([]int{int(e)}, place...)...)
}

// became is what became of a call.
func became(e platform.Entered) string {
	switch {
	case e.Pending:
		return "pending " + joined(e.Ticket)
	case e.Errno != api.OK:
		return told(e.Errno)
	case e.Verdict.Reason != api.Passed:
		return "block " + reasons()[e.Verdict.Reason-1] + blank + joined(e.Verdict.Rule)
	case e.Granted:
		return "pass " + joined(e.Number, e.Verdict.Wait) + " granted"
	}
	return "pass " + joined(e.Number, e.Verdict.Wait)
}

// joined is numbers with a blank between.
func joined(l ...int) string {
	var words []string
	for _, n := range l {
		words = append(words, strconv.Itoa(n))
	}
	return strings.Join(words, blank)
}

// listed is lines of an answer.
func listed(l []string) string { return orNone(strings.Join(l, "\n")) }

func orNone(answer string) string {
	if answer == "" {
		return noThing
	}
	return answer
}

func upOrDown(isUp bool) string {
	if isUp {
		return "up"
	}
	return "down"
}
