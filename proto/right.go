package proto

import (
	"spillway/api"
	"spillway/rules"
)

const (
	maxNumber = 1<<31 - 1 // of requests, and of tokens
	maxWait   = 1 << 40   // microseconds
)

// isWanted tells whether what is asked may be. A request with those fields alone that its Want names is the request itself, if all others are empty.
func isWanted(r api.Request) bool {
	named := api.Request{Id: r.Id, Want: r.Want}
	may := false
	switch r.Want {
	case api.WantFlow, api.WantToken:
		named.Flow, named.Count = r.Flow, r.Count
		may = isFlow(r)
	case api.WantParam:
		named.Flow, named.Count, named.Text = r.Flow, r.Count, r.Text
		may = isFlow(r) && len(r.Text) <= api.MaxName
	case api.GiveBack:
		named.Token = r.Token
		may = within(r.Token, 1, maxNumber)
	case api.Hello:
		named.Text = r.Text
		may = rules.IsName(r.Text)
	}
	return may && r == named
}

// isFlow tells whether it asks for so many tokens of a flow.
func isFlow(r api.Request) bool {
	return within(r.Flow, 1, api.MaxCount) && within(r.Count, 1, api.MaxCount)
}

func within(n, lo, hi int) bool { return n >= lo && n <= hi }
