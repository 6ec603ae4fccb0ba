package shell

import (
	"slices"
	"strings"

	"spillway/api"
	"spillway/client"
	"spillway/cluster"
	"spillway/platform"
	"spillway/rulejson"
	"spillway/token"
)

// session is a script that is done: the platform, if there is one by now, and the flows that are kept.
type session struct {
	*platform.Platform
	flows []token.Flow
}

// answer is that to a line, which is done: one line or more, without the last line feed.
func (s *session) answer(l line) string {
	f, d, is := find(l)
	switch {
	case !is:
		return noWord
	case f.needs != nobody && s.Platform == nil:
		return noThing
	case f.needs == aProgram && s.Mode(d.numbers[0]) == 0:
		return told(api.ErrRange)
	}
	return f.do(s, d)
}

func (s *session) begin(d said) string {
	setting := client.Setting{Timeout: 500000, Least: 100000, Most: 1000000}
	p, err := platform.New(0, d.numbers[0], setting, d.numbers[1], uint64(d.numbers[2]))
	if err == api.OK {
		*s = session{Platform: p}
	}
	return told(err)
}

func (s *session) flow(d said) string {
	f := token.Flow{Id: d.numbers[0], Count: d.numbers[1], Kind: token.Kind(d.picks[0])}
	if len(d.numbers) > 2 {
		f.Lease = d.numbers[2]
	}
	next := slices.Clone(s.flows)
	if i := slices.IndexFunc(next, func(kept token.Flow) bool { return kept.Id == f.Id }); i >= 0 {
		next[i] = f
	} else {
		next = append(next, f)
	}
	err := s.Flows(next...)
	if err == api.OK {
		s.flows = next
	}
	return told(err)
}

func (s *session) tick(d said) string {
	return told(s.Do(cluster.Op{Kind: cluster.Tick, At: d.numbers[0]}))
}

func (s *session) dial(d said) string {
	return told(s.Do(cluster.Op{Kind: cluster.Dial, Client: d.numbers[0]}))
}

func (s *session) cut(d said) string {
	return told(s.Do(cluster.Op{Kind: cluster.Cut, Client: d.numbers[0]}))
}

func (s *session) toServer(d said) string {
	return told(s.Do(cluster.Op{Kind: cluster.ToServer, Client: d.numbers[0], Bytes: d.numbers[1]}))
}

func (s *session) toClient(d said) string {
	return told(s.Do(cluster.Op{Kind: cluster.ToClient, Client: d.numbers[0], Bytes: d.numbers[1]}))
}

func (s *session) stop(said) string { return told(s.Do(cluster.Op{Kind: cluster.Stop})) }

func (s *session) start(said) string { return told(s.Do(cluster.Op{Kind: cluster.Start})) }

func (s *session) rules(d said) string {
	r, err, at := rulejson.Decode(d.text)
	if err != api.OK {
		return told(err, at)
	}
	return told(s.Load(d.numbers[0], r))
}

func (s *session) mode(d said) string {
	return told(s.SetMode(d.numbers[0], platform.Mode(d.picks[0])))
}

func (s *session) enter(d said) string {
	const noOrigin = "-"
	c := api.Call{Resource: d.words[0], Context: d.words[1], Origin: d.words[2], Inbound: d.picks[0] == 1, Count: d.numbers[1], Args: d.words[3:]}
	if c.Origin == noOrigin {
		c.Origin = ""
	}
	e, err := s.Enter(d.numbers[0], c)
	if err != api.OK {
		return told(err)
	}
	return became(e)
}

func (s *session) exit(d said) string {
	return told(s.Exit(d.numbers[0], d.numbers[1], d.picks[0] == 2))
}

func (s *session) decided(d said) string {
	var l []string
	for _, e := range s.Decided(d.numbers[0]) {
		l = append(l, joined(e.Ticket)+blank+became(e))
	}
	return listed(l)
}

func (s *session) pending(d said) string { return orNone(joined(s.Pending(d.numbers[0])...)) }

func (s *session) open(d said) string { return orNone(joined(s.Engine(d.numbers[0]).Open()...)) }

func (s *session) counts(d said) string {
	e := s.Engine(d.numbers[0])
	c, err := e.Counts(s.Now(), d.words[0])
	if err != api.OK {
		return told(err)
	}
	return joined(c.Pass, c.Block, c.Done, c.Errors, c.RtSum, c.MinRt, e.Flight(d.words[0]))
}

func (s *session) put(d said) string {
	answers, err := s.Put(d.numbers[0], []byte(d.text+"\n")...)
	if err != api.OK {
		return told(err)
	}
	return listed(answers)
}

func (s *session) grants(said) string {
	var l []string
	for _, g := range s.Cluster().Grants() {
		l = append(l, joined(g.At, g.Client, g.Id, g.Request.Flow, g.Request.Count))
	}
	return listed(l)
}

func (s *session) now(said) string { return joined(s.Now()) + blank + upOrDown(s.Cluster().Up()) }

func (s *session) see(d said) string {
	i := d.numbers[0]
	c := s.Cluster()
	return strings.Join([]string{upOrDown(c.Connected(i)), modes()[s.Mode(i)-1], joined(len(c.Waiting(i)))}, blank)
}
