package keys

import (
	"bureau/api"
	"bureau/record"
)

// against tells how one key stands to another: below 0 ahead of it, 0 if both are the same, above 0 behind it.
type against func(a, b []api.Value) int

// by holds keys against each other by the orders of a tree.
func by(order []api.Order) against {
	return func(a, b []api.Value) int { return record.Cmp(a, b, order) }
}

// asFound is for calls that are told no orders: each key counts as ahead of the one that is found behind it.
func asFound(_, _ []api.Value) int { return -1 }
