package record

import (
	"cmp"
	"slices"

	"bureau/api"
	"bureau/value"
)

// Cmp tells how row a stands to row b by the orders of their columns: -1 ahead, 0 neither, 1 behind.
func Cmp(a, b []api.Value, order []api.Order) int {
	for i := range min(len(a), len(b)) {
		o := api.Order{Coll: api.CollBinary}
		if i < len(order) {
			o = order[i]
		}
		if n := cmpBy(a[i], b[i], o); n != 0 {
			return n
		}
	}
	return cmp.Compare(len(a), len(b)) // whether a column falls says nothing about rows that end
}

// cmpBy is how two values stand by the order of their column.
func cmpBy(a, b api.Value, o api.Order) int {
	if o.Desc {
		a, b = b, a
	}
	return value.Cmp(a, b, o.Coll)
}

// Same tells whether two rows are the same, field by field, be their values such as may be or not.
func Same(a, b []api.Value) bool {
	return slices.Equal(a, b)
}
