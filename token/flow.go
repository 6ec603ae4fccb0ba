package token

import "spillway/api"

const (
	maxConn  = 1<<31 - 1         // the greatest number of a connection
	maxLease = 3600 * api.Second // microseconds
)

func isWrong(f Flow) bool { return !Right(f) }

// quiet is how long a server that has begun grants nothing of a flow: as long as what was granted ahead of it may count.
func (f Flow) quiet() int { return max(api.Second, f.Lease) }

// wanted is by which requests flows of a kind are asked for.
func (k Kind) wanted() api.Want {
	switch k {
	case Rate:
		return api.WantFlow
	case Value:
		return api.WantParam
	}
	return api.WantToken
}

// texts is how many texts it needs to tell what is used of a flow.
func (k Kind) texts() int {
	if k == Value {
		return 1
	}
	return 0
}

func isTime(at int) bool { return within(at, 0, api.MaxTime) }

func within(n, lo, hi int) bool { return n >= lo && n <= hi }
