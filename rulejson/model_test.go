package rulejson_test

import (
	"math/big"
	"reflect"
	"regexp"
	"slices"
	"strings"

	"spillway/api"
	"spillway/rules"
)

// spec is the document's list of what a rule of a kind has as JSON: each member's name and kind (a word is one of those with bars between).
type spec struct {
	name, field string
	kind        api.RuleKind
	members     string
}

var specs = []spec{
	{"flow", "Flows", api.FlowRule, "resource:S origin:S threads:B count:N strategy:direct|relate|chain ref:S shape:reject|warmup|pace|warmpace warm:N queue:N cluster:B id:N fallback:B"},
	{"break", "Breaks", api.BreakRule, "resource:S grade:slow|errors|count count:N slow:N least:N window:N recover:N"},
	{"hot", "Hots", api.HotRule, "resource:S index:N count:N seconds:N items:items"},
	{"system", "Systems", api.SystemRule, "qps:N threads:N rt:N load:N cpu:N"},
	{"authority", "Lists", api.ListRule, "resource:S white:B origins:texts"},
}

const ofItem = "value:S count:N"

// split are the names of members, and their kinds.
func split(members string) (names, kinds []string) {
	for _, m := range strings.Fields(members) {
		name, kind, _ := strings.Cut(m, ":")
		names, kinds = append(names, name), append(kinds, kind)
	}
	return names, kinds
}

// field is the field of a rule that a member names.
func field(rule reflect.Value, name string) reflect.Value {
	return rule.FieldByName(strings.ToUpper(name[:1]) + name[1:])
}

// found is all that FromValue answers.
type found struct {
	rules  api.Rules
	err    api.Errno
	kind   api.RuleKind
	number int
}

func wrong(err api.Errno, kind api.RuleKind, number int) found {
	return found{err: err, kind: kind, number: number}
}

// modelled is what FromValue must answer, as the document tells of it.
func modelled(v api.Value) found {
	if v.Kind != api.Object || len(v.Names) != len(v.List) {
		return wrong(api.ErrField, api.NoRule, 0)
	}
	for i, name := range v.Names {
		isNone := !slices.ContainsFunc(specs, func(s spec) bool { return s.name == name })
		if isNone || slices.Contains(v.Names[:i], name) || v.List[i].Kind != api.Array {
			return wrong(api.ErrField, api.NoRule, 0)
		}
	}
	var r api.Rules
	for _, s := range specs {
		i := slices.Index(v.Names, s.name)
		if i < 0 {
			continue
		}
		list := reflect.ValueOf(&r).Elem().FieldByName(s.field)
		for number, part := range v.List[i].List {
			rule := empty(list.Type().Elem())
			if err := modelObject(part, s.members, rule); err != api.OK {
				return wrong(err, s.kind, number)
			}
			list.Set(reflect.Append(list, rule))
		}
	}
	if kind, number, err := rules.Where(r); err != api.OK {
		return wrong(err, kind, number)
	}
	return found{rules: r}
}

// empty is a rule of which all is missing.
func empty(t reflect.Type) reflect.Value {
	rule := reflect.New(t).Elem()
	switch rule.Interface().(type) {
	case api.Flow:
		rule.FieldByName("Origin").SetString("default")
	case api.System:
		rule.Set(reflect.ValueOf(api.System{Qps: -1, Threads: -1, Rt: -1, Load: -1, Cpu: -1}))
	}
	return rule
}

func modelObject(v api.Value, members string, to reflect.Value) api.Errno {
	if v.Kind != api.Object || len(v.Names) != len(v.List) {
		return api.ErrField
	}
	names, kinds := split(members)
	for i, name := range v.Names {
		at := slices.Index(names, name)
		if at < 0 || slices.Contains(v.Names[:i], name) {
			return api.ErrField
		}
		if err := modelMember(v.List[i], kinds[at], field(to, name)); err != api.OK {
			return err
		}
	}
	return api.OK
}

var isDecimal = regexp.MustCompile(`^(0|-?[1-9][0-9]*)$`).MatchString

func modelMember(v api.Value, kind string, to reflect.Value) api.Errno {
	switch {
	case kind == "S" && v.Kind == api.String:
		to.SetString(v.Text)
	case kind == "B" && (v.Kind == api.True || v.Kind == api.False):
		to.SetBool(v.Kind == api.True)
	case kind == "N" && v.Kind == api.Number:
		n, _ := new(big.Int).SetString(v.Text, 10)
		if !isDecimal(v.Text) || !n.IsInt64() {
			return api.ErrNumber
		}
		to.SetInt(n.Int64())
	case strings.Contains(kind, "|") && v.Kind == api.String && slices.Contains(strings.Split(kind, "|"), v.Text):
		to.SetUint(uint64(slices.Index(strings.Split(kind, "|"), v.Text)))
	case kind == "texts" && v.Kind == api.Array, kind == "items" && v.Kind == api.Array:
		return modelParts(v.List, kind, to)
	default:
		return api.ErrField
	}
	return api.OK
}

func modelParts(l []api.Value, kind string, to reflect.Value) api.Errno {
	for _, part := range l {
		one := reflect.New(to.Type().Elem()).Elem()
		err := api.OK
		if kind == "texts" {
			err = modelMember(part, "S", one)
		} else {
			err = modelObject(part, ofItem, one)
		}
		if err != api.OK {
			return err
		}
		to.Set(reflect.Append(to, one))
	}
	return api.OK
}
