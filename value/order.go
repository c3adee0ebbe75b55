package value

import (
	"cmp"

	"workflow/api"
)

// Order compares two values: -1, 0 or 1. It is 0 if one of them is not well formed.
func Order(a, b api.Value) int {
	if !wellFormed(a) || !wellFormed(b) {
		return 0
	}
	return compare(a, b)
}

// compare compares two well-formed values.
func compare(a, b api.Value) int {
	if c := cmp.Compare(a.Kind, b.Kind); c != 0 {
		return c
	}
	switch a.Kind {
	case api.VText:
		return cmp.Compare(a.Text, b.Text)
	case api.VList, api.VMap:
		return compareItems(a, b)
	}
	return cmp.Compare(a.Int, b.Int)
}

// compareItems compares two lists item by item, or two maps pair by pair.
func compareItems(a, b api.Value) int {
	for i := range min(len(a.Items), len(b.Items)) {
		if a.Kind == api.VMap {
			if c := cmp.Compare(a.Keys[i], b.Keys[i]); c != 0 {
				return c
			}
		}
		if c := compare(a.Items[i], b.Items[i]); c != 0 {
			return c
		}
	}
	return cmp.Compare(len(a.Items), len(b.Items))
}
