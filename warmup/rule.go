package warmup

import (
	"spillway/api"
	"spillway/num"
)

const (
	mostSeconds = 3600
	mostPassed  = 1 << 62
)

// rule is what a warm-up is told: a count, over so many seconds.
type rule struct{ count, seconds int }

func (r rule) greatest() int { return r.seconds * r.count }

func (r rule) warning() int { return r.greatest() - r.greatest()/2 }

// rate is how many tokens a second may pass with so many kept: all of the count below the warning, a third of it at the greatest.
func (r rule) rate(tokens int) int {
	warning, greatest := r.warning(), r.greatest()
	if tokens < warning || warning == greatest {
		return r.count
	}
	// The quotient is at most the count, so there is no error.
	rate, _ := num.MulDiv(greatest, r.count, 4*(tokens-warning)+greatest, false)
	return max(rate, 1)
}

func third(count int) int { return count / 3 }

// pool is the tokens that are kept, and the second at which they were filled last.
type pool struct {
	tokens, second int
	begun          bool
}

// filled is the pool as it is when it is filled at a time, where so many tokens passed in the whole second ahead.
func (p pool) filled(r rule, at, past int) pool {
	second := at - at%api.Second
	if p.begun && p.second == second {
		return p
	}
	tokens := min(num.Plus(p.tokens, p.coming(r, second, past)), r.greatest())
	return pool{tokens: max(tokens-past, 0), second: second, begun: true}
}

// coming is how many tokens come at a second: none, while one that is not warm yet has much to do.
func (p pool) coming(r rule, second, past int) int {
	switch {
	case !p.begun:
		return r.greatest()
	case p.tokens < r.warning() || past < third(r.count):
		return num.Times(r.count, (second-p.second)/api.Second)
	}
	return 0
}
