package value

import "workflow/api"

// Right reports whether v is a payload: well formed, within the limits, and without a future.
func Right(v api.Value) bool {
	return withinLimits(v) && wellFormed(v) && every(v, notFuture)
}

// every reports whether a test holds for v and for all values in it.
func every(v api.Value, holds func(api.Value) bool) bool {
	if !holds(v) {
		return false
	}
	for _, item := range v.Items {
		if !every(item, holds) {
			return false
		}
	}
	return true
}

func notFuture(v api.Value) bool { return v.Kind != api.VFuture }

func wellFormed(v api.Value) bool { return every(v, rightFields) }

// rightFields reports whether v has the fields of its kind and no others; it does not look into its items.
func rightFields(v api.Value) bool {
	noInt, noText := v.Int == 0, v.Text == ""
	noItems, noKeys := len(v.Items) == 0, len(v.Keys) == 0
	switch v.Kind {
	case api.VNull:
		return noInt && noText && noItems && noKeys
	case api.VBool:
		return (v.Int == 0 || v.Int == 1) && noText && noItems && noKeys
	case api.VInt:
		return noText && noItems && noKeys
	case api.VText:
		return noInt && noItems && noKeys
	case api.VList:
		return noInt && noText && noKeys
	case api.VMap:
		return noInt && noText && len(v.Keys) == len(v.Items) && ascending(v.Keys)
	case api.VFuture:
		return v.Int >= 0 && noText && noItems && noKeys
	}
	return false
}

// ascending reports whether each key follows the one before it.
func ascending(keys []string) bool {
	for i := 1; i < len(keys); i++ {
		if keys[i] <= keys[i-1] {
			return false
		}
	}
	return true
}

// withinLimits reports whether v is within MaxText, MaxDepth and MaxNodes, also if it is not well formed.
func withinLimits(v api.Value) bool {
	room := api.MaxNodes
	return fits(v, 1, &room)
}

// fits reports whether v fits at a depth into the nodes that room counts. It stops at the first excess, so that a value
// far beyond the limits is not walked through as a whole.
func fits(v api.Value, depth int, room *int) bool {
	*room--
	if *room < 0 || depth > api.MaxDepth || len(v.Text) > api.MaxText {
		return false
	}
	for _, key := range v.Keys {
		if len(key) > api.MaxText {
			return false
		}
	}
	for _, item := range v.Items {
		if !fits(item, depth+1, room) {
			return false
		}
	}
	return true
}
