package tree

import (
	"maps"
	"slices"

	"spillway/api"
	"spillway/stat"
)

// nodes are those of keys, and the keys as they came: a map has no order.
type nodes struct {
	byKey map[Key]*stat.Node
	keys  []Key
}

// grow lets keys have nodes, all of them or none.
func (n *nodes) grow(keys ...Key) api.Errno {
	fresh := map[Key]*stat.Node{}
	var order []Key
	for _, k := range keys {
		if n.byKey[k] != nil || fresh[k] != nil {
			continue
		}
		if len(n.keys)+len(order) == api.MaxNodes {
			return api.ErrFull
		}
		fresh[k] = stat.New()
		order = append(order, k)
	}
	maps.Copy(n.byKey, fresh)
	n.keys = append(n.keys, order...)
	return api.OK
}

// have tells whether all keys have nodes.
func (n *nodes) have(keys ...Key) bool {
	return !slices.ContainsFunc(keys, func(k Key) bool { return n.byKey[k] == nil })
}

// nodesOf are those of keys, as often as those stand there; of a key without one there is none.
func (n *nodes) nodesOf(keys ...Key) []*stat.Node {
	var l []*stat.Node
	for _, k := range keys {
		if node := n.byKey[k]; node != nil {
			l = append(l, node)
		}
	}
	return l
}

func (n *nodes) forked() nodes {
	byKey := map[Key]*stat.Node{}
	for k, node := range n.byKey {
		byKey[k] = node.Fork()
	}
	return nodes{byKey: byKey, keys: slices.Clone(n.keys)}
}
