package command

import (
	"slices"

	"spillway/api"
	"spillway/json"
)

// The names of an answer's parts.
const (
	okName    = "ok"
	errorName = "error"
	placeName = "at"
)

// object is one of these parts, as they are.
func object(parts ...Part) api.Value {
	v := api.Value{Kind: api.Object}
	for _, p := range parts {
		v.Names = append(v.Names, p.Name)
		v.List = append(v.List, p.Value)
	}
	return v
}

// isOk tells whether an answer is ok, whatever stands behind that.
func isOk(v api.Value) bool {
	return len(v.Names) > 0 && v.Names[0] == okName && v.List[0].Kind == api.True
}

// failed is the error and the place that an answer tells; ErrForm: it tells none.
func failed(v api.Value) (e api.Errno, at int, wrong api.Errno) {
	if !slices.Equal(v.Names, []string{okName, errorName, placeName}) || v.List[0].Kind != api.False {
		return api.OK, 0, api.ErrForm
	}
	n, isError := json.Whole(v.List[1])
	at, isPlace := json.Whole(v.List[2])
	if !isError || n < 1 || !isPlace {
		return api.OK, 0, api.ErrForm
	}
	return api.Errno(n), at, api.OK
}

func (m Metric) value() api.Value {
	return object(
		Part{"resource", json.OfText(m.Resource)},
		Part{"pass", json.OfInt(m.Counts.Pass)},
		Part{"block", json.OfInt(m.Counts.Block)},
		Part{"done", json.OfInt(m.Counts.Done)},
		Part{"errors", json.OfInt(m.Counts.Errors)},
		Part{"rt", json.OfInt(m.Counts.RtSum)},
		Part{"min", json.OfInt(m.Counts.MinRt)},
		Part{"flight", json.OfInt(m.Flight)},
	)
}
