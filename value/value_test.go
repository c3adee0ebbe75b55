package value_test

import (
	"fmt"
	"maps"
	"math"
	"slices"
	"strings"
	"testing"

	"workflow/api"
	"workflow/value"
	"workflow/wire"
)

// show writes all fields of a value; nil and empty lists look the same. Values are equal exactly if they look the same.
func show(v api.Value) string {
	var s strings.Builder
	fmt.Fprintf(&s, "(%d %d %q %q", v.Kind, v.Int, v.Text, v.Keys)
	for _, item := range v.Items {
		s.WriteString(show(item))
	}
	return s.String() + ")"
}

// showMemory writes also what lies between the lengths and the capacities of the slices of a value.
func showMemory(v api.Value) string {
	v.Items = v.Items[:cap(v.Items)]
	v.Keys = v.Keys[:cap(v.Keys)]
	var s strings.Builder
	fmt.Fprintf(&s, "(%d %d %q %q", v.Kind, v.Int, v.Text, v.Keys)
	for _, item := range v.Items {
		s.WriteString(showMemory(item))
	}
	return s.String() + ")"
}

// roomy returns an equal value of new memory, whose slices have capacity beyond their length.
func roomy(v api.Value) api.Value {
	items := make([]api.Value, 0, len(v.Items)+3)
	for _, item := range v.Items {
		items = append(items, roomy(item))
	}
	keys := append(make([]string, 0, len(v.Keys)+3), v.Keys...)
	for i := range 3 {
		items[:len(items)+3][len(items)+i] = value.Int(i)
		keys[:len(keys)+3][len(keys)+i] = "spare"
	}
	v.Items, v.Keys = items, keys
	return v
}

// scribble overwrites all memory of a value, its capacity included.
func scribble(v api.Value) {
	items, keys := v.Items[:cap(v.Items)], v.Keys[:cap(v.Keys)]
	for i := range items {
		scribble(items[i])
		items[i] = api.Value{Kind: 99, Int: 99, Text: "scribble"}
	}
	for i := range keys {
		keys[i] = "scribble"
	}
}

func list(items ...api.Value) api.Value { return api.Value{Kind: api.VList, Items: items} }

// pairs builds a map by hand from keys and items in turn, in the order in which they are given.
func pairs(all ...any) api.Value {
	v := api.Value{Kind: api.VMap}
	for i := 0; i < len(all); i += 2 {
		v.Keys = append(v.Keys, all[i].(string))
		v.Items = append(v.Items, all[i+1].(api.Value))
	}
	return v
}

func integer(n int) api.Value { return api.Value{Kind: api.VInt, Int: n} }
func text(s string) api.Value { return api.Value{Kind: api.VText, Text: s} }
func future(n int) api.Value  { return api.Value{Kind: api.VFuture, Int: n} }
func long(size int) string    { return strings.Repeat("x", size) }

// nodes returns a list with so many nodes, and none of more than depth 2.
func nodes(n int) api.Value { return list(make([]api.Value, n-1)...) }

// deep returns lists within lists, of a depth in all, around null.
func deep(depth int) api.Value {
	v := api.Value{}
	for range depth - 1 {
		v = list(v)
	}
	return v
}

// malformed returns values that are not well formed, by what is wrong with them.
func malformed() map[string]api.Value {
	some := []api.Value{{}}
	bad := map[string]api.Value{
		"kind 7":              {Kind: 7},
		"kind -1":             {Kind: -1},
		"greatest kind":       {Kind: math.MaxInt},
		"boolean 2":           {Kind: api.VBool, Int: 2},
		"boolean -1":          {Kind: api.VBool, Int: -1},
		"future -1":           {Kind: api.VFuture, Int: -1},
		"least future":        {Kind: api.VFuture, Int: math.MinInt},
		"fewer items":         {Kind: api.VMap, Keys: []string{"a", "b"}, Items: some},
		"fewer keys":          {Kind: api.VMap, Keys: []string{"a"}, Items: make([]api.Value, 2)},
		"map without items":   {Kind: api.VMap, Keys: []string{"a"}},
		"map without keys":    {Kind: api.VMap, Items: some},
		"equal keys":          pairs("a", api.Value{}, "a", api.Value{}),
		"equal keys, empty":   pairs("", api.Value{}, "", api.Value{}),
		"descending keys":     pairs("b", api.Value{}, "a", api.Value{}),
		"last key too small":  pairs("a", api.Value{}, "c", api.Value{}, "b", api.Value{}),
		"last key equal":      pairs("a", api.Value{}, "c", api.Value{}, "c", api.Value{}),
		"key after a longer":  pairs("ab", api.Value{}, "a", api.Value{}),
		"keys as signed":      pairs("\x80", api.Value{}, "a", api.Value{}),
		"list with an Int":    {Kind: api.VList, Int: 1, Items: some},
		"list with a Text":    {Kind: api.VList, Text: "x", Items: some},
		"list with equal Key": {Kind: api.VList, Keys: []string{"a"}, Items: some},
		"map with an Int":     {Kind: api.VMap, Int: 1, Keys: []string{"a"}, Items: some},
		"map with a Text":     {Kind: api.VMap, Text: "x", Keys: []string{"a"}, Items: some},
	}
	for kind := api.VNull; kind <= api.VFuture; kind++ {
		if kind != api.VText {
			bad[fmt.Sprint("Text in kind ", kind)] = api.Value{Kind: kind, Text: "x"}
		}
		if kind != api.VList {
			bad[fmt.Sprint("Items in kind ", kind)] = api.Value{Kind: kind, Items: some}
		}
		bad[fmt.Sprint("Keys in kind ", kind)] = api.Value{Kind: kind, Keys: []string{""}}
	}
	for _, kind := range []int{api.VNull, api.VText, api.VList, api.VMap} {
		bad[fmt.Sprint("Int in kind ", kind)] = api.Value{Kind: kind, Int: 1}
		bad[fmt.Sprint("negative Int in kind ", kind)] = api.Value{Kind: kind, Int: -1}
	}
	for name, v := range maps.Clone(bad) {
		bad[name+", in a list"] = list(api.Value{}, v)
		bad[name+", in a map"] = pairs("a", v, "b", api.Value{})
		bad[name+", deep inside"] = list(integer(1), pairs("a", api.Value{}, "b", list(list(v), text("x"))))
	}
	return bad
}

// payloads returns payloads of all kinds: all small ones, and some at the limits.
func payloads() []api.Value {
	leaves := []api.Value{{}, value.Bool(false), value.Bool(true), text(""), text("a"), text("ab"), text("\x80"), list(), pairs()}
	for _, n := range []int{math.MinInt, -1, 0, 1, 7, math.MaxInt} {
		leaves = append(leaves, integer(n))
	}
	all := slices.Clone(leaves)
	for _, a := range leaves {
		all = append(all, list(a), list(list(a)), pairs("a", a), pairs("", a), pairs("b", list(a)), list(pairs("\xff", a)))
		for _, b := range leaves {
			all = append(all, list(a, b), list(a, list(b)), pairs("", a, "b", b), pairs("a", a, "ab", b), pairs("a", pairs("b", a, "c", b)))
		}
	}
	wide := api.Value{Kind: api.VMap, Items: make([]api.Value, 999)}
	for i := range 999 {
		wide.Keys = append(wide.Keys, fmt.Sprintf("%04d", i))
	}
	return append(all, wide, nodes(1000), list(nodes(500), nodes(499)), deep(16), pairs("a", deep(15), "b", deep(15)),
		text(long(4096)), pairs(long(4096), list(text(long(4096)))))
}

// outsiders returns well-formed values that are not payloads: with futures, or beyond the limits.
func outsiders() map[string]api.Value {
	wide := api.Value{Kind: api.VMap, Items: make([]api.Value, 1000)}
	for i := range 1000 {
		wide.Keys = append(wide.Keys, fmt.Sprintf("%04d", i))
	}
	return map[string]api.Value{
		"future 0":               future(0),
		"greatest future":        future(math.MaxInt),
		"future in a list":       list(integer(1), future(3)),
		"future in a map":        pairs("a", future(3), "b", integer(1)),
		"future deep inside":     list(pairs("a", list(list(future(0)), api.Value{}))),
		"long text":              text(long(4097)),
		"long text in a list":    list(integer(1), text(long(4097)), integer(2)),
		"long text in a map":     pairs("a", integer(1), "b", text(long(4097))),
		"long key":               pairs(long(4097), integer(1)),
		"long last key":          pairs("a", integer(1), long(4097), integer(1)),
		"long key inside":        list(pairs("a", list(pairs(long(4097), integer(1))))),
		"depth 17":               deep(17),
		"depth 17 in a map":      pairs("a", integer(1), "b", deep(16)),
		"depth 17, other first":  list(deep(3), deep(16), deep(2)),
		"map at depth 17":        list(pairs("a", list(pairs("a", list(pairs("a", deep(11))))))),
		"1001 nodes":             nodes(1001),
		"1001 nodes of a map":    wide,
		"1001 nodes in parts":    list(nodes(500), nodes(500)),
		"1001 nodes at the end":  list(nodes(999), api.Value{}),
		"1001 nodes in sublists": pairs("a", nodes(400), "b", nodes(300), "c", nodes(300)),
	}
}

// P2.1: what each constructor returns.
func TestConstructors(t *testing.T) {
	for _, x := range []struct {
		got  api.Value
		want string
	}{
		{value.Null(), `(0 0 "" [])`},
		{value.Bool(false), `(1 0 "" [])`},
		{value.Bool(true), `(1 1 "" [])`},
		{value.Int(0), `(2 0 "" [])`},
		{value.Int(-7), `(2 -7 "" [])`},
		{value.Int(math.MaxInt), `(2 9223372036854775807 "" [])`},
		{value.Int(math.MinInt), `(2 -9223372036854775808 "" [])`},
		{value.Text(""), `(3 0 "" [])`},
		{value.Text("a\x00\xff"), `(3 0 "a\x00\xff" [])`},
		{value.List(nil), `(4 0 "" [])`},
		{value.List([]api.Value{}), `(4 0 "" [])`},
		{value.List([]api.Value{integer(5), text("x"), list(integer(5))}), `(4 0 "" [](2 5 "" [])(3 0 "x" [])(4 0 "" [](2 5 "" [])))`},
	} {
		if show(x.got) != x.want {
			t.Errorf("%s, want %s", show(x.got), x.want)
		}
	}
}

// P2.1: Text and List do not check what they are given.
func TestConstructorsDoNotCheck(t *testing.T) {
	if v := value.Text(long(5000)); v.Text != long(5000) || v.Kind != api.VText {
		t.Error("Text changes a long string")
	}
	all := malformed()
	maps.Copy(all, outsiders())
	for name, v := range all {
		if got, want := show(value.List([]api.Value{v, v})), show(list(v, v)); got != want {
			t.Errorf("List of %s: %.200s, want %.200s", name, got, want)
		}
	}
}

// P2.3: payloads are right; values that are not well formed, have a future, or are beyond a limit are not.
func TestRight(t *testing.T) {
	for _, v := range payloads() {
		if !value.Right(v) || !value.Right(roomy(v)) {
			t.Errorf("the payload %.200s is not right", show(v))
		}
	}
	for name, v := range malformed() {
		if value.Right(v) {
			t.Errorf("%s is right", name)
		}
	}
	for name, v := range outsiders() {
		if value.Right(v) {
			t.Errorf("%s is right", name)
		}
	}
}

// P2.3: Same compares all fields, of values of all sorts.
func TestSame(t *testing.T) {
	all := append(payloads()[:200], list(integer(1), integer(2), integer(3)), list(integer(1), integer(2), integer(4)))
	for _, more := range []map[string]api.Value{malformed(), outsiders()} {
		for _, name := range slices.Sorted(maps.Keys(more)) {
			all = append(all, more[name])
		}
	}
	looks := make([]string, len(all))
	for i, v := range all {
		looks[i] = show(v)
	}
	for i, a := range all {
		for k, b := range all {
			if got, want := value.Same(a, b), looks[i] == looks[k]; got != want {
				t.Errorf("Same of %.100s and %.100s: %v", looks[i], looks[k], got)
			}
		}
		if !value.Same(a, roomy(a)) || !value.Same(roomy(a), a) {
			t.Errorf("%.100s is not the same as an equal value", looks[i])
		}
	}
}

// P2.3: a difference of one field counts, also in one that the kind does not use; nil and empty lists are equal.
func TestSameComparesEachField(t *testing.T) {
	base := api.Value{Kind: api.VInt, Int: 1, Text: "t", Keys: []string{"k", "l"}, Items: []api.Value{{}, {}}}
	for name, change := range map[string]func(v *api.Value){
		"Kind":       func(v *api.Value) { v.Kind = api.VBool },
		"Int":        func(v *api.Value) { v.Int = 2 },
		"Text":       func(v *api.Value) { v.Text = "u" },
		"no Keys":    func(v *api.Value) { v.Keys = nil },
		"a key":      func(v *api.Value) { v.Keys[1] = "m" },
		"fewer Keys": func(v *api.Value) { v.Keys = v.Keys[:1] },
		"more Keys":  func(v *api.Value) { v.Keys = append(v.Keys, "") },
		"key order":  func(v *api.Value) { v.Keys[0], v.Keys[1] = "l", "k" },
		"no Items":   func(v *api.Value) { v.Items = nil },
		"an item":    func(v *api.Value) { v.Items[1].Int = 5 },
		"less Items": func(v *api.Value) { v.Items = v.Items[:1] },
		"more Items": func(v *api.Value) { v.Items = append(v.Items, api.Value{}) },
	} {
		other := roomy(base)
		change(&other)
		if value.Same(base, other) || value.Same(other, base) || value.Same(list(base), list(other)) {
			t.Errorf("Same does not see a difference: %s", name)
		}
	}
	for kind := -1; kind <= 7; kind++ {
		none, empty := api.Value{Kind: kind}, api.Value{Kind: kind, Items: []api.Value{}, Keys: []string{}}
		if !value.Same(none, empty) || !value.Same(empty, none) || !value.Same(list(none), list(empty)) {
			t.Errorf("nil and empty lists differ in kind %d", kind)
		}
	}
}

// P2.3: Depth and Size count the items of every value, whatever its kind.
func TestDepthAndSize(t *testing.T) {
	for _, x := range []struct {
		v           api.Value
		depth, size int
	}{
		{api.Value{}, 1, 1},
		{integer(5), 1, 1},
		{text(long(5000)), 1, 1},
		{list(), 1, 1},
		{pairs(), 1, 1},
		{list(api.Value{}), 2, 2},
		{list(api.Value{}, api.Value{}, api.Value{}), 2, 4},
		{pairs("a", integer(1), "b", list(integer(1), integer(2))), 3, 5},
		{list(deep(3), deep(5), deep(2)), 6, 11},
		{list(deep(5), deep(3)), 6, 9},
		{deep(16), 16, 16},
		{deep(17), 17, 17},
		{nodes(1001), 2, 1001},
		{list(nodes(1000), nodes(1000)), 3, 2001},
		{deep(1 << 16), 1 << 16, 1 << 16},
		{api.Value{Kind: api.VInt, Items: []api.Value{{}, list(integer(1))}}, 3, 4},
		{api.Value{Kind: 9, Items: []api.Value{{Kind: -1, Items: make([]api.Value, 2)}}}, 3, 4},
		{api.Value{Kind: api.VMap, Keys: []string{"a", "b"}}, 1, 1},
		{roomy(list(integer(1), list())), 2, 3},
	} {
		if value.Depth(x.v) != x.depth || value.Size(x.v) != x.size {
			t.Errorf("%.100s: depth %d, size %d, want %d, %d", show(x.v), value.Depth(x.v), value.Size(x.v), x.depth, x.size)
		}
	}
}

// P2.6: Copy returns an equal value, also of one that is not well formed.
func TestCopy(t *testing.T) {
	all := payloads()
	for _, more := range []map[string]api.Value{malformed(), outsiders()} {
		all = slices.AppendSeq(all, maps.Values(more))
	}
	for _, v := range all {
		if got := value.Copy(v); show(got) != show(v) || show(value.Copy(roomy(v))) != show(v) {
			t.Errorf("a copy of %.200s is %.200s", show(v), show(got))
		}
	}
	if value.Depth(value.Copy(deep(1<<16))) != 1<<16 {
		t.Error("a copy of a deep value")
	}
}

// P2.1, P2.2, P2.5, P2.6, P2.8: results share memory neither with arguments nor with one another, and arguments stay as
// they are, also beyond their length.
func TestResultsAreNewMemory(t *testing.T) {
	x := pairs("m", list(text("x"), pairs("n", integer(1))))
	v := pairs("a", list(integer(1)), "c", x, "e", pairs("f", integer(2)))
	for name, call := range map[string]func(v, x api.Value) api.Value{
		"List":             func(v, x api.Value) api.Value { return value.List([]api.Value{v, x, v}) },
		"List of Items":    func(v, x api.Value) api.Value { return value.List(v.Items) },
		"Map":              func(v, x api.Value) api.Value { return first(value.Map([]string{"b", "a"}, []api.Value{v, x})) },
		"Map of Items":     func(v, x api.Value) api.Value { return first(value.Map(v.Keys, v.Items)) },
		"Map of one":       func(v, x api.Value) api.Value { return first(value.Map(x.Keys, x.Items)) },
		"Failure":          func(v, x api.Value) api.Value { return value.Failure("kind", x) },
		"Get":              func(v, x api.Value) api.Value { return item(value.Get(v, "c")) },
		"Put to the front": func(v, x api.Value) api.Value { return first(value.Put(v, "", x)) },
		"Put between":      func(v, x api.Value) api.Value { return first(value.Put(v, "b", x)) },
		"Put to the end":   func(v, x api.Value) api.Value { return first(value.Put(v, "z", x)) },
		"Put anew":         func(v, x api.Value) api.Value { return first(value.Put(v, "c", x)) },
		"Put itself":       func(v, x api.Value) api.Value { return first(value.Put(v, "e", v)) },
		"Drop the first":   func(v, x api.Value) api.Value { return first(value.Drop(v, "a")) },
		"Drop one":         func(v, x api.Value) api.Value { return first(value.Drop(v, "c")) },
		"Drop the last":    func(v, x api.Value) api.Value { return first(value.Drop(v, "e")) },
		"Copy":             func(v, x api.Value) api.Value { return value.Copy(v) },
		"Decode":           func(v, x api.Value) api.Value { return value.Decode(wire.Open(value.Encode(nil, v))) },
	} {
		v, x := roomy(v), roomy(x)
		before := showMemory(v) + showMemory(x)
		one, two := call(v, x), call(v, x)
		want := show(two)
		if showMemory(v)+showMemory(x) != before || len(two.Items) == 0 {
			t.Errorf("%s: an argument has changed, or there is no result", name)
		}
		scribble(one)
		if showMemory(v)+showMemory(x) != before || show(two) != want {
			t.Errorf("%s: the result shares memory with an argument or with another result", name)
		}
		scribble(v)
		scribble(x)
		if show(two) != want {
			t.Errorf("%s: the result keeps an argument", name)
		}
		for i := range two.Items {
			others := list(two.Items[i+1:]...)
			want := show(others)
			scribble(two.Items[i])
			if show(others) != want {
				t.Errorf("%s: parts of the result share memory", name)
			}
		}
	}
}

func first(v api.Value, _ api.Errno) api.Value { return v }
func item(v api.Value, _ bool) api.Value       { return v }
