package value

import (
	"cmp"
	"slices"

	"workflow/api"
)

// entry is a key of a map with its item.
type entry struct {
	key  string
	item api.Value
}

// Map builds a map from keys in any order.
func Map(keys []string, items []api.Value) (api.Value, api.Errno) {
	if len(items) != len(keys) {
		return Null(), api.ErrSize
	}
	entries := make([]entry, len(keys))
	for i, key := range keys {
		entries[i] = entry{key, items[i]}
	}
	slices.SortFunc(entries, func(a, b entry) int { return cmp.Compare(a.key, b.key) })
	m := api.Value{Kind: api.VMap}
	for _, e := range entries {
		m.Keys = append(m.Keys, e.key)
		m.Items = append(m.Items, e.item)
	}
	if !ascending(m.Keys) {
		return Null(), api.ErrTwice
	}
	return limited(m)
}

// Get returns a copy of the item of a key.
func Get(v api.Value, key string) (api.Value, bool) {
	if !isMap(v) {
		return Null(), false
	}
	i, found := slices.BinarySearch(v.Keys, key)
	if !found {
		return Null(), false
	}
	return Copy(v.Items[i]), true
}

// Put returns a map with an item added or replaced.
func Put(v api.Value, key string, x api.Value) (api.Value, api.Errno) {
	if !isMap(v) {
		return Null(), api.ErrType
	}
	m := api.Value{Kind: api.VMap, Keys: slices.Clone(v.Keys), Items: slices.Clone(v.Items)}
	i, found := slices.BinarySearch(v.Keys, key)
	if found {
		m.Items[i] = x
	} else {
		m.Keys = slices.Insert(m.Keys, i, key)
		m.Items = slices.Insert(m.Items, i, x)
	}
	return limited(m)
}

// Drop returns a map without a key and its item.
func Drop(v api.Value, key string) (api.Value, api.Errno) {
	if !isMap(v) {
		return Null(), api.ErrType
	}
	i, found := slices.BinarySearch(v.Keys, key)
	if !found {
		return Null(), api.ErrNone
	}
	m := Copy(v)
	m.Keys = slices.Delete(m.Keys, i, i+1)
	m.Items = slices.Delete(m.Items, i, i+1)
	return m, api.OK
}

func isMap(v api.Value) bool { return v.Kind == api.VMap && wellFormed(v) }

// limited returns a copy of v if it is within the limits.
func limited(v api.Value) (api.Value, api.Errno) {
	if !withinLimits(v) {
		return Null(), api.ErrSize
	}
	return Copy(v), api.OK
}
