package client_test

import (
	"slices"

	"spillway/api"
	"spillway/client"
)

// item is what a server sends: an answer, or what is none.
type item struct {
	bytes  []byte
	answer api.Answer
	isBad  bool
	ends   int // behind so many of its bytes it is known what it is
}

// record is one request that was taken.
type record struct {
	at    int
	ended bool
}

// model is a client as the document tells of it: it keeps all that it ever took, and the items that come, not their bytes.
type model struct {
	s         client.Setting
	up        bool
	last      int
	from      int
	fails     int // since it was connected last
	taken     []record
	told      []client.Told
	out       []api.Request
	coming    []item
	cameParts int // of the first item
}

func (m *model) fork() *model {
	fork := *m
	fork.taken, fork.told, fork.out, fork.coming = slices.Clone(m.taken), slices.Clone(m.told), slices.Clone(m.out), slices.Clone(m.coming)
	return &fork
}

func (m *model) waiting() []int {
	var l []int
	for i, one := range m.taken {
		if !one.ended {
			l = append(l, i+1)
		}
	}
	return l
}

func (m *model) fallBack(which func(one record) bool) {
	for i, one := range m.taken {
		if !one.ended && which(one) {
			m.taken[i].ended = true
			m.told = append(m.told, client.Told{Id: i + 1, Fallback: true})
		}
	}
}

// begin is ErrRange, ErrBack, or a Tick.
func (m *model) begin(at int) api.Errno {
	switch {
	case at < 0 || at > api.MaxTime:
		return api.ErrRange
	case at < m.last:
		return api.ErrBack
	}
	m.last = at
	m.fallBack(func(one record) bool { return one.at+m.s.Timeout <= at })
	return api.OK
}

// backoff is Least, doubled by each fail, at most Most.
func (m *model) backoff() int {
	n := m.s.Least
	for range m.fails {
		n = min(n*2, m.s.Most)
	}
	return n
}

func (m *model) fail() {
	m.from = m.last + m.backoff()
	m.fails++
}

func (m *model) down() {
	m.up = false
	m.fallBack(func(record) bool { return true })
	m.fail()
	m.out, m.coming, m.cameParts = nil, nil, 0
}

// come lets so many bytes of what the server sends come.
func (m *model) come(n int) api.Errno {
	for len(m.coming) > 0 && m.cameParts+n >= m.coming[0].ends {
		one := m.coming[0]
		if one.isBad {
			m.down()
			return api.ErrFrame
		}
		n -= len(one.bytes) - m.cameParts
		m.coming, m.cameParts = m.coming[1:], 0
		if i := one.answer.Id - 1; i >= 0 && i < len(m.taken) && !m.taken[i].ended {
			m.taken[i].ended = true
			m.told = append(m.told, client.Told{Id: one.answer.Id, Answer: one.answer})
		}
	}
	m.cameParts += n
	return api.OK
}
