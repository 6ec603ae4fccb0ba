package slots

import (
	"spillway/api"
	"spillway/guard"
	"spillway/reject"
	"spillway/tree"
)

// seen is what was at the node at which a flow rule looks: what passed in the second, and in the whole second ahead, and what is in flight.
type seen struct{ passed, past, flight int }

// seen is what a flow rule sees for the call. Of a node that is not there all is 0, as a nil node answers.
func (a *asking) seen(r api.Flow) seen {
	node := a.tree.Node(keyOf(reject.Where(r, a.Call)))
	sum, _ := node.Sum(a.At)
	past, _ := node.Past(a.At)
	return seen{passed: sum.Pass, past: past, flight: node.Flight()}
}

// keyOf is the key of the node at which a flow rule looks.
func keyOf(l reject.Look) tree.Key {
	switch {
	case l.Origin != "":
		return tree.Key{Kind: tree.Source, Resource: l.Resource, Origin: l.Origin}
	case l.Context != "":
		return tree.Key{Kind: tree.Inner, Resource: l.Resource, Context: l.Context}
	}
	return clusterOf(l.Resource)
}

func clusterOf(resource string) tree.Key { return tree.Key{Kind: tree.Cluster, Resource: resource} }

// now is what system rules see: all calls from outside. The node is there, and has no error, as the call is one of them.
func (a *asking) now() guard.Now {
	node := a.tree.Node(tree.Key{Kind: tree.Whole})
	sum, _ := node.Sum(a.At)
	mean, _ := node.Mean(a.At)
	most, _ := node.Most(a.At)
	least, _ := node.Least(a.At)
	return guard.Now{
		Qps: sum.Pass, Threads: node.Flight(), Rt: mean,
		Load: a.sample.load, Cpu: a.sample.cpu,
		Most: most, Least: least,
	}
}
