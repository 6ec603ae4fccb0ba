package warmup_test

import (
	"math/big"

	"spillway/api"
)

// model is a warm-up as the document tells of it, in numbers of any size.
type model struct {
	count, seconds int64
	tokens         *big.Int
	filledAt       *big.Int // in whole seconds; nil: never
}

func newModel(count, seconds int) *model {
	return &model{count: int64(count), seconds: int64(seconds), tokens: new(big.Int)}
}

func number(n int64) *big.Int          { return big.NewInt(n) }
func plus(a, b *big.Int) *big.Int      { return new(big.Int).Add(a, b) }
func less(a, b *big.Int) *big.Int      { return new(big.Int).Sub(a, b) }
func times(a, b *big.Int) *big.Int     { return new(big.Int).Mul(a, b) }
func by(a *big.Int, n int64) *big.Int  { return new(big.Int).Div(a, number(n)) }
func isLess(a, b *big.Int) bool        { return a.Cmp(b) < 0 }
func (m *model) greatest() *big.Int    { return times(number(m.seconds), number(m.count)) }
func (m *model) warning() *big.Int     { return by(plus(m.greatest(), number(1)), 2) }
func (m *model) fork() *model          { fork := *m; return &fork }
func (m *model) rateAt(at, p int) int  { f := m.fork(); f.fill(at, p); return f.rate() }
func (m *model) marks() (w, g int)     { return int(m.warning().Int64()), int(m.greatest().Int64()) }
func (m *model) isBusy(past int) bool  { return !isLess(number(int64(past)), by(number(m.count), 3)) }
func (m *model) isWarm() bool          { return isLess(m.tokens, m.warning()) }
func (m *model) isFilled(s int64) bool { return m.filledAt != nil && m.filledAt.Cmp(number(s)) == 0 }

func (m *model) fill(at, past int) {
	s := int64(at / api.Second)
	if m.isFilled(s) {
		return
	}
	come := new(big.Int)
	switch {
	case m.filledAt == nil:
		come = m.greatest()
	case m.isWarm() || !m.isBusy(past):
		come = times(number(m.count), less(number(s), m.filledAt))
	}
	tokens := plus(m.tokens, come)
	if isLess(m.greatest(), tokens) {
		tokens = m.greatest()
	}
	tokens = less(tokens, number(int64(past)))
	if tokens.Sign() < 0 {
		tokens = new(big.Int)
	}
	m.tokens, m.filledAt = tokens, number(s)
}

func (m *model) rate() int {
	if m.isWarm() || m.warning().Cmp(m.greatest()) == 0 {
		return int(m.count)
	}
	bottom := plus(times(number(4), less(m.tokens, m.warning())), m.greatest())
	rate := new(big.Int).Div(times(m.greatest(), number(m.count)), bottom)
	return max(int(rate.Int64()), 1)
}
