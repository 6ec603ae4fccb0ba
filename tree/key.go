package tree

import (
	"spillway/api"
	"spillway/rules"
)

// Kind is a kind of nodes.
type Kind uint8

// Kinds.
const (
	Whole Kind = 1 + iota
	Entrance
	Inner
	Cluster
	Source
)

// Key says which node.
type Key struct {
	Kind                      Kind
	Context, Resource, Origin string
}

// Keys are those of a call.
func Keys(c api.Call) ([]Key, api.Errno) {
	if !rules.IsName(c.Resource) || !rules.IsName(c.Context) || c.Origin != "" && !rules.IsName(c.Origin) {
		return nil, api.ErrName
	}
	keys := []Key{
		{Kind: Inner, Context: c.Context, Resource: c.Resource},
		{Kind: Cluster, Resource: c.Resource},
	}
	if c.Origin != "" {
		keys = append(keys, Key{Kind: Source, Resource: c.Resource, Origin: c.Origin})
	}
	keys = append(keys, Key{Kind: Entrance, Context: c.Context})
	if c.Inbound {
		keys = append(keys, Key{Kind: Whole})
	}
	return keys, api.OK
}
