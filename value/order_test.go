package value_test

import (
	"cmp"
	"math"
	"math/rand"
	"slices"
	"testing"

	"workflow/api"
	"workflow/value"
)

// P2.4: well-formed values in the order that the chapter gives them, each compared with each.
func TestOrder(t *testing.T) {
	ordered := []api.Value{
		{},
		value.Bool(false), value.Bool(true),
		integer(math.MinInt), integer(-2), integer(0), integer(1), integer(10), integer(math.MaxInt),
		text(""), text("\x00"), text("10"), text("9"), text("A"), text("a"), text("aa"), text("b"), text(long(5000)), text("\x80"), text("\xff"),
		list(),
		list(api.Value{}), list(api.Value{}, api.Value{}),
		list(value.Bool(false), integer(9)),
		list(integer(1)), list(integer(1), integer(0)), list(integer(1), integer(2)), list(integer(1), integer(2), integer(0)),
		list(integer(1), integer(3)),
		list(integer(2)), list(integer(2), integer(0)),
		list(text("a")), list(list(), integer(1)), list(list(integer(1))), list(pairs()), list(future(0)),
		pairs(),
		pairs("", integer(5)),
		pairs("a", api.Value{}), pairs("a", integer(1)), pairs("a", integer(1), "b", integer(7)), pairs("a", integer(1), "c", integer(0)),
		pairs("a", integer(2)), pairs("a", integer(2), "b", integer(0)), pairs("a", integer(2), "b", integer(1)),
		pairs("a", text("")), pairs("a", list(integer(2))), pairs("a", list(integer(2), integer(1))), pairs("a", pairs("b", integer(1))),
		pairs("ab", integer(0)), pairs("b", api.Value{}), pairs("b", integer(1)), pairs("\xff", api.Value{}),
		future(0), future(1), future(math.MaxInt),
	}
	for i, a := range ordered {
		for k, b := range ordered {
			want := cmp.Compare(i, k)
			if got := value.Order(a, b); got != want {
				t.Errorf("Order of %.100s and %.100s: %d", show(a), show(b), got)
			}
			if got := value.Order(list(a), list(roomy(b))); got != want {
				t.Errorf("Order of lists of %.100s and %.100s: %d", show(a), show(b), got)
			}
			if got := value.Order(pairs("k", integer(1), "l", a), pairs("k", integer(1), "l", b)); got != want {
				t.Errorf("Order of maps of %.100s and %.100s: %d", show(a), show(b), got)
			}
		}
	}
}

// P2.4: limits and futures do not matter to Order.
func TestOrderBeyondTheLimits(t *testing.T) {
	for _, x := range []struct {
		a, b api.Value
		want int
	}{
		{deep(1 << 16), deep(1 << 16), 0},
		{deep(1 << 16), deep(1<<16 - 1), 1},
		{deep(40), list(deep(39), integer(1)), -1},
		{nodes(2000), nodes(2001), -1},
		{nodes(2001), nodes(2000), 1},
		{text(long(5000)), text(long(4999)), 1},
		{pairs(long(5000), integer(1)), pairs(long(5000), integer(2)), -1},
		{list(future(1)), list(future(2)), -1},
		{pairs("a", future(1)), pairs("a", integer(9)), 1},
	} {
		if got := value.Order(x.a, x.b); got != x.want {
			t.Errorf("%.100s and %.100s: %d, want %d", show(x.a), show(x.b), got, x.want)
		}
	}
}

// P2.4: Order is 0 if one of the values is not well formed, even where another difference comes first.
func TestOrderOfMalformedValues(t *testing.T) {
	for name, bad := range malformed() {
		for _, v := range []api.Value{{}, integer(5), list(), list(integer(1)), pairs("a", integer(1)), future(1), bad} {
			if value.Order(v, bad) != 0 || value.Order(bad, v) != 0 {
				t.Errorf("%s and %s: %d, %d", name, show(v), value.Order(v, bad), value.Order(bad, v))
			}
		}
		if value.Order(list(integer(1), bad), list(integer(2))) != 0 || value.Order(list(integer(2)), list(integer(1), bad)) != 0 {
			t.Errorf("%s behind a difference", name)
		}
	}
}

// P2.10: there is one order of many values in which each precedes exactly those that follow it; Order is 0 exactly for
// equal values.
func TestOrderIsTotal(t *testing.T) {
	all := payloads()
	for _, v := range outsiders() {
		all = append(all, v)
	}
	for i := range 5 {
		all = append(all, future(i), list(future(i), integer(-i)), pairs("f", future(i)))
	}
	looks := map[string]bool{}
	all = slices.DeleteFunc(all, func(v api.Value) bool {
		known := looks[show(v)]
		looks[show(v)] = true
		return known
	})
	slices.SortFunc(all, value.Order)
	for i, a := range all {
		for k, b := range all {
			want := cmp.Compare(i, k)
			if got := value.Order(a, b); got != want || value.Same(a, b) != (want == 0) {
				t.Fatalf("Order of %.100s and %.100s: %d, want %d", show(a), show(b), got, want)
			}
		}
	}
}

// P2.10: the sorting of values does not depend on where they were.
func TestOrderSortsFromAnyStart(t *testing.T) {
	random := rand.New(rand.NewSource(1))
	all := payloads()[:300]
	want := slices.SortedFunc(slices.Values(all), value.Order)
	for range 5 {
		random.Shuffle(len(all), func(i, k int) { all[i], all[k] = all[k], all[i] })
		if got := slices.SortedFunc(slices.Values(all), value.Order); !slices.EqualFunc(got, want, value.Same) {
			t.Fatal("two ways of sorting differ")
		}
	}
}
