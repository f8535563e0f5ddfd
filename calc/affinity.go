package calc

import (
	"strings"

	"bureau/api"
	"bureau/value"
)

// AffOf tells the affinity of a type by its name.
func AffOf(name string) (api.Aff, bool) {
	is := func(known string) bool { return value.Equal(name, known, api.CollNoCase) }
	switch {
	case is("INTEGER"), is("INT"):
		return api.AffInt, true
	case is("TEXT"):
		return api.AffText, true
	case is("BLOB"), is(""):
		return api.AffNone, true
	}
	return api.AffNone, false
}

// Apply tells a value with an affinity.
func Apply(f api.Aff, v api.Value) api.Value {
	if !value.May(v) {
		return v
	}
	switch {
	case f == api.AffInt && v.Kind == api.KindText:
		if n := number(strings.Trim(v.Text, blanks)); n.Kind == api.KindInt {
			return n
		}
	case f == api.AffText && v.Kind == api.KindInt:
		return Show(v)
	}
	return v
}

// Pair tells two sides of a comparison whose affinities are x and y.
func Pair(a, b api.Value, x, y api.Aff) (api.Value, api.Value) {
	return Apply(lent(y, x), a), Apply(lent(x, y), b)
}

// Cast tells a value as one of a type.
func Cast(v api.Value, name string) (api.Value, api.Errno) {
	f, ok := AffOf(name)
	if !ok {
		return api.Value{}, api.ErrType
	}
	if !value.May(v) {
		return api.Value{}, api.ErrArg
	}
	switch f {
	case api.AffInt:
		return Num(v), api.OK
	case api.AffText:
		return Show(v), api.OK
	}
	if name == "" || v.Kind == api.KindNull {
		return v, api.OK
	}
	return value.Blob(Show(v).Text)
}

// lent is the affinity that a side gives to the other one's value, AffNone if it gives none.
func lent(from, to api.Aff) api.Aff {
	if from == api.AffInt && to != api.AffInt || from == api.AffText && to == api.AffNone {
		return from
	}
	return api.AffNone
}
