package value_test

import (
	"fmt"
	"slices"
	"testing"

	"workflow/api"
	"workflow/value"
)

// checkMap checks a result with an error code: the value is null if there is an error.
func checkMap(t *testing.T, name string, got api.Value, e api.Errno, want api.Value, wantError api.Errno) {
	t.Helper()
	if wantError != api.OK {
		want = api.Value{}
	}
	if e != wantError || show(got) != show(want) {
		t.Errorf("%s: error %d, %.300s, want %d, %.300s", name, e, show(got), wantError, show(want))
	}
}

// P2.2: Map orders its keys, byte by byte, and the items follow them.
func TestMap(t *testing.T) {
	for _, x := range []struct {
		keys []string
		want api.Value
	}{
		{nil, pairs()},
		{[]string{}, pairs()},
		{[]string{""}, pairs("", integer(0))},
		{[]string{"b", "a"}, pairs("a", integer(1), "b", integer(0))},
		{[]string{"a", "b"}, pairs("a", integer(0), "b", integer(1))},
		{[]string{"c", "a", "b"}, pairs("a", integer(1), "b", integer(2), "c", integer(0))},
		{[]string{"b", "c", "a"}, pairs("a", integer(2), "b", integer(0), "c", integer(1))},
		{[]string{"ab", "", "b", "a"}, pairs("", integer(1), "a", integer(3), "ab", integer(0), "b", integer(2))},
		{[]string{"\xff", "a", "\x80", "\x00"}, pairs("\x00", integer(3), "a", integer(1), "\x80", integer(2), "\xff", integer(0))},
		{[]string{"a", "A", "é"}, pairs("A", integer(1), "a", integer(0), "é", integer(2))},
		{[]string{"10", "9", "2"}, pairs("10", integer(0), "2", integer(2), "9", integer(1))},
	} {
		items := make([]api.Value, len(x.keys))
		for i := range items {
			items[i] = integer(i)
		}
		got, e := value.Map(x.keys, items)
		checkMap(t, fmt.Sprintf("%q", x.keys), got, e, x.want, api.OK)
	}
}

// P2.2: Map takes items of all sorts that are within the limits, whether they are well formed or not.
func TestMapDoesNotCheckItems(t *testing.T) {
	for name, v := range malformed() {
		got, e := value.Map([]string{"b", "a"}, []api.Value{v, future(3)})
		checkMap(t, name, got, e, pairs("a", future(3), "b", v), api.OK)
	}
}

// P2.2: the errors of Map and their order.
func TestMapErrors(t *testing.T) {
	some := func(n int) []api.Value { return make([]api.Value, n) }
	for name, x := range map[string]struct {
		keys  []string
		items []api.Value
		want  api.Errno
	}{
		"no item":                    {[]string{"a"}, nil, api.ErrSize},
		"no key":                     {nil, some(1), api.ErrSize},
		"an item too few":            {[]string{"a", "b"}, some(1), api.ErrSize},
		"an item too many":           {[]string{"a", "b"}, some(3), api.ErrSize},
		"equal keys, an item short":  {[]string{"a", "a"}, some(1), api.ErrSize},
		"equal keys":                 {[]string{"a", "a"}, some(2), api.ErrTwice},
		"equal empty keys":           {[]string{"", ""}, some(2), api.ErrTwice},
		"equal keys far apart":       {[]string{"b", "c", "a", "d", "b"}, some(5), api.ErrTwice},
		"equal keys with equal item": {[]string{"a", "a"}, []api.Value{integer(1), integer(1)}, api.ErrTwice},
		"equal long keys":            {[]string{long(4097), long(4097)}, some(2), api.ErrTwice},
		"equal keys, long text":      {[]string{"a", "a"}, []api.Value{text(long(4097)), {}}, api.ErrTwice},
		"equal keys, many items":     {slices.Repeat([]string{"a"}, 1000), some(1000), api.ErrTwice},
		"a long key":                 {[]string{"a", long(4097)}, some(2), api.ErrSize},
		"the longest key":            {[]string{"a", long(4096)}, some(2), api.OK},
		"a long text":                {[]string{"a"}, []api.Value{text(long(4097))}, api.ErrSize},
		"the longest text":           {[]string{"a"}, []api.Value{text(long(4096))}, api.OK},
		"a long text inside":         {[]string{"a"}, []api.Value{list(text(long(4097)))}, api.ErrSize},
		"a long key inside":          {[]string{"a"}, []api.Value{pairs(long(4097), api.Value{})}, api.ErrSize},
		"depth 17":                   {[]string{"a", "b"}, []api.Value{{}, deep(16)}, api.ErrSize},
		"depth 16":                   {[]string{"a", "b"}, []api.Value{{}, deep(15)}, api.OK},
		"1001 nodes":                 {[]string{"a", "b"}, []api.Value{nodes(500), nodes(500)}, api.ErrSize},
		"1000 nodes":                 {[]string{"a", "b"}, []api.Value{nodes(500), nodes(499)}, api.OK},
		"a very deep item":           {[]string{"a"}, []api.Value{deep(1 << 16)}, api.ErrSize},
		"long text of an integer":    {[]string{"a"}, []api.Value{{Kind: api.VInt, Text: long(4097)}}, api.ErrSize},
		"long key of an integer":     {[]string{"a"}, []api.Value{{Kind: api.VInt, Keys: []string{long(4097)}}}, api.ErrSize},
		"1001 nodes of an integer":   {[]string{"a"}, []api.Value{{Kind: api.VInt, Items: some(999)}}, api.ErrSize},
		"1000 nodes of an integer":   {[]string{"a"}, []api.Value{{Kind: api.VInt, Items: some(998)}}, api.OK},
		"depth 17 in an integer":     {[]string{"a"}, []api.Value{{Kind: api.VInt, Items: []api.Value{deep(15)}}}, api.ErrSize},
	} {
		want := api.Value{Kind: api.VMap, Keys: x.keys, Items: x.items}
		got, e := value.Map(x.keys, x.items)
		checkMap(t, name, got, e, want, x.want)
	}
}

// P2.2: as many pairs as there can be nodes, and one more.
func TestMapOfManyKeys(t *testing.T) {
	keys := make([]string, 1000)
	items := make([]api.Value, 1000)
	for i := range keys {
		keys[i] = fmt.Sprintf("%04d", (i*7+3)%1000)
		items[i] = integer((i*7 + 3) % 1000)
	}
	if _, e := value.Map(keys, items); e != api.ErrSize {
		t.Errorf("1000 pairs: error %d", e)
	}
	m, e := value.Map(keys[1:], items[1:])
	if e != api.OK || len(m.Keys) != 999 || !slices.IsSorted(m.Keys) || !value.Right(m) {
		t.Fatalf("999 pairs: error %d, %d keys", e, len(m.Keys))
	}
	for i, key := range m.Keys {
		if key != fmt.Sprintf("%04d", m.Items[i].Int) {
			t.Errorf("the key %s has the item %d", key, m.Items[i].Int)
		}
	}
}

// P2.2: Failure returns its map, whatever it is given.
func TestFailure(t *testing.T) {
	all := append(payloads()[:50], deep(16), nodes(1000), text(long(4097)), future(1), deep(40))
	for _, v := range malformed() {
		all = append(all, v)
	}
	for _, kind := range []string{"", "timeout", "\xff\x00", long(4097)} {
		for _, data := range all {
			if got, want := show(value.Failure(kind, data)), show(pairs("data", data, "type", text(kind))); got != want {
				t.Errorf("Failure: %.200s, want %.200s", got, want)
			}
		}
	}
}

// P2.5: Get returns the item of a key, in maps of all sizes.
func TestGet(t *testing.T) {
	m := pairs()
	for i := range 40 {
		for k := range 41 {
			v, ok := value.Get(m, fmt.Sprintf("k%02d", k*2))
			if ok != (k < i) || ok && show(v) != show(list(integer(k))) || !ok && show(v) != show(api.Value{}) {
				t.Errorf("the key %d of %d: %v, %s", k, i, ok, show(v))
			}
			if v, ok := value.Get(m, fmt.Sprintf("k%02d", k*2+1)); ok || show(v) != show(api.Value{}) {
				t.Errorf("a key that a map of %d pairs does not have: %s", i, show(v))
			}
		}
		m.Keys = append(m.Keys, fmt.Sprintf("k%02d", i*2))
		m.Items = append(m.Items, list(integer(i)))
	}
	for _, key := range []string{"", "k", "k0", "k000", "z", "\xff"} {
		if v, ok := value.Get(m, key); ok || show(v) != show(api.Value{}) {
			t.Errorf("the key %q: %s", key, show(v))
		}
	}
	if v, ok := value.Get(pairs("", integer(3)), ""); !ok || show(v) != show(integer(3)) {
		t.Error("the empty key")
	}
}

// P2.5: Get works on well-formed maps only, but on these whatever their size.
func TestGetOfOtherValues(t *testing.T) {
	for name, v := range malformed() {
		for _, key := range append([]string{"", "a", "b", "c"}, v.Keys...) {
			if x, ok := value.Get(v, key); ok || show(x) != show(api.Value{}) {
				t.Errorf("%s: the key %q has the item %s", name, key, show(x))
			}
		}
	}
	for _, v := range []api.Value{{}, value.Bool(true), integer(1), text("a"), list(integer(1)), future(1)} {
		if x, ok := value.Get(v, ""); ok || show(x) != show(api.Value{}) {
			t.Errorf("%s has the item %s", show(v), show(x))
		}
	}
	for name, v := range outsiders() {
		for i, key := range v.Keys {
			if x, ok := value.Get(v, key); !ok || show(x) != show(v.Items[i]) {
				t.Errorf("%s: no item for a key", name)
			}
		}
	}
}

// P2.5: Put replaces or adds an item, at each place.
func TestPut(t *testing.T) {
	x := list(integer(9))
	for _, c := range []struct {
		v    api.Value
		key  string
		want api.Value
	}{
		{pairs(), "a", pairs("a", x)},
		{pairs(), "", pairs("", x)},
		{pairs("b", integer(1)), "a", pairs("a", x, "b", integer(1))},
		{pairs("b", integer(1)), "b", pairs("b", x)},
		{pairs("b", integer(1)), "c", pairs("b", integer(1), "c", x)},
		{pairs("b", integer(1)), "", pairs("", x, "b", integer(1))},
		{pairs("b", integer(1)), "bb", pairs("b", integer(1), "bb", x)},
		{pairs("b", integer(1)), "\xff", pairs("b", integer(1), "\xff", x)},
		{pairs("b", integer(1)), "B", pairs("B", x, "b", integer(1))},
		{pairs("a", integer(1), "c", integer(2), "e", integer(3)), "b", pairs("a", integer(1), "b", x, "c", integer(2), "e", integer(3))},
		{pairs("a", integer(1), "c", integer(2), "e", integer(3)), "d", pairs("a", integer(1), "c", integer(2), "d", x, "e", integer(3))},
		{pairs("a", integer(1), "c", integer(2), "e", integer(3)), "f", pairs("a", integer(1), "c", integer(2), "e", integer(3), "f", x)},
		{pairs("a", integer(1), "c", integer(2), "e", integer(3)), "a", pairs("a", x, "c", integer(2), "e", integer(3))},
		{pairs("a", integer(1), "c", integer(2), "e", integer(3)), "c", pairs("a", integer(1), "c", x, "e", integer(3))},
		{pairs("a", integer(1), "c", integer(2), "e", integer(3)), "e", pairs("a", integer(1), "c", integer(2), "e", x)},
		{pairs("a", future(1)), "b", pairs("a", future(1), "b", x)},
	} {
		got, e := value.Put(c.v, c.key, x)
		checkMap(t, fmt.Sprintf("%q into %s", c.key, show(c.v)), got, e, c.want, api.OK)
	}
}

// P2.5: Put does not check whether x is well formed.
func TestPutOfAnything(t *testing.T) {
	for name, x := range malformed() {
		got, e := value.Put(pairs("b", integer(1)), "a", x)
		checkMap(t, name, got, e, pairs("a", x, "b", integer(1)), api.OK)
		got, e = value.Put(pairs("b", integer(1)), "b", x)
		checkMap(t, name, got, e, pairs("b", x), api.OK)
	}
	got, e := value.Put(pairs(), "a", future(7))
	checkMap(t, "a future", got, e, pairs("a", future(7)), api.OK)
}

// P2.5: the result of Put must be within the limits, whatever v is.
func TestPutLimits(t *testing.T) {
	small := pairs("a", integer(1), "b", integer(2))
	big := func(n int) api.Value { return pairs("a", nodes(n-2), "b", integer(2)) }
	for name, c := range map[string]struct {
		v    api.Value
		key  string
		x    api.Value
		want api.Errno
	}{
		"the longest text":             {small, "c", text(long(4096)), api.OK},
		"a long text":                  {small, "c", text(long(4097)), api.ErrSize},
		"a long text, replacing":       {small, "b", text(long(4097)), api.ErrSize},
		"a long text inside":           {small, "c", list(text(long(4097))), api.ErrSize},
		"the longest key":              {small, long(4096), integer(1), api.OK},
		"a long key":                   {small, long(4097), integer(1), api.ErrSize},
		"a long key inside":            {small, "c", pairs(long(4097), integer(1)), api.ErrSize},
		"depth 16":                     {small, "c", deep(15), api.OK},
		"depth 17":                     {small, "c", deep(16), api.ErrSize},
		"depth 16, replacing":          {small, "a", deep(15), api.OK},
		"depth 17, replacing":          {small, "a", deep(16), api.ErrSize},
		"1000 nodes":                   {big(999), "c", integer(1), api.OK},
		"1001 nodes":                   {big(1000), "c", integer(1), api.ErrSize},
		"1001 nodes, a list":           {big(900), "c", nodes(101), api.ErrSize},
		"1000 nodes, replacing":        {big(1000), "b", integer(1), api.OK},
		"1001 nodes, replacing":        {big(1000), "b", list(integer(1)), api.ErrSize},
		"fewer nodes than before":      {big(1001), "a", integer(1), api.OK},
		"as many nodes as before":      {big(1001), "b", integer(1), api.ErrSize},
		"v has a long text":            {pairs("a", text(long(4097))), "b", integer(1), api.ErrSize},
		"v had a long text":            {pairs("a", text(long(4097))), "a", integer(1), api.OK},
		"v has a long key":             {pairs(long(4097), integer(1)), "b", integer(1), api.ErrSize},
		"v keeps a long key":           {pairs(long(4097), integer(1)), long(4097), integer(1), api.ErrSize},
		"v is too deep":                {pairs("a", deep(16)), "b", integer(1), api.ErrSize},
		"v was too deep":               {pairs("a", deep(16)), "a", integer(1), api.OK},
		"a very deep item":             {small, "c", deep(1 << 16), api.ErrSize},
		"a long text of an integer":    {small, "c", api.Value{Kind: api.VInt, Text: long(4097)}, api.ErrSize},
		"many nodes of an integer":     {small, "c", api.Value{Kind: api.VInt, Items: make([]api.Value, 997)}, api.ErrSize},
		"not a map, and a long text":   {list(), "c", text(long(4097)), api.ErrType},
		"malformed, and a long key":    {pairs("b", integer(1), "a", integer(1)), long(4097), integer(1), api.ErrType},
		"an item malformed, too large": {pairs("a", api.Value{Kind: 9}, "b", nodes(1000)), "c", integer(1), api.ErrType},
	} {
		got, e := value.Put(c.v, c.key, c.x)
		if e != c.want {
			t.Errorf("%s: error %d, want %d", name, e, c.want)
		}
		if x, ok := value.Get(got, c.key); e == api.OK && (!ok || show(x) != show(c.x)) || e != api.OK && show(got) != show(api.Value{}) {
			t.Errorf("%s: %.200s", name, show(got))
		}
	}
}

// P2.5: Drop removes an item, at each place, and leaves the map as large as it is otherwise.
func TestDrop(t *testing.T) {
	three := pairs("a", integer(1), "c", list(integer(2)), "e", integer(3))
	for name, c := range map[string]struct {
		v    api.Value
		key  string
		want api.Value
		e    api.Errno
	}{
		"the only one":              {pairs("a", integer(1)), "a", pairs(), api.OK},
		"the empty key":             {pairs("", integer(1), "a", integer(2)), "", pairs("a", integer(2)), api.OK},
		"the first":                 {three, "a", pairs("c", list(integer(2)), "e", integer(3)), api.OK},
		"the second":                {three, "c", pairs("a", integer(1), "e", integer(3)), api.OK},
		"the last":                  {three, "e", pairs("a", integer(1), "c", list(integer(2))), api.OK},
		"of no pairs":               {pairs(), "a", pairs(), api.ErrNone},
		"before the first":          {three, "", pairs(), api.ErrNone},
		"between":                   {three, "b", pairs(), api.ErrNone},
		"behind the last":           {three, "f", pairs(), api.ErrNone},
		"a prefix":                  {pairs("ab", integer(1)), "a", pairs(), api.ErrNone},
		"a longer key":              {pairs("ab", integer(1)), "abc", pairs(), api.ErrNone},
		"null":                      {api.Value{}, "a", pairs(), api.ErrType},
		"a list":                    {list(integer(1)), "a", pairs(), api.ErrType},
		"a text":                    {text("a"), "a", pairs(), api.ErrType},
		"a future":                  {pairs("a", future(1), "b", future(2)), "b", pairs("a", future(1)), api.OK},
		"a long text":               {pairs("a", text(long(4097)), "b", integer(1)), "a", pairs("b", integer(1)), api.OK},
		"a long key":                {pairs("a", integer(1), long(4097), integer(1)), long(4097), pairs("a", integer(1)), api.OK},
		"a long text stays":         {pairs("a", text(long(4097)), "b", integer(1)), "b", pairs("a", text(long(4097))), api.OK},
		"a long key stays":          {pairs("a", integer(1), long(4097), integer(1)), "a", pairs(long(4097), integer(1)), api.OK},
		"depth 17 stays":            {pairs("a", integer(1), "b", deep(16)), "a", pairs("b", deep(16)), api.OK},
		"more than 1000 nodes stay": {pairs("a", integer(1), "b", nodes(1001)), "a", pairs("b", nodes(1001)), api.OK},
		"none, beyond the limits":   {pairs("b", nodes(1001)), "a", pairs(), api.ErrNone},
	} {
		got, e := value.Drop(c.v, c.key)
		checkMap(t, name, got, e, c.want, c.e)
	}
}

// P2.5: Put and Drop return ErrType for what is not a well-formed map, whatever the key.
func TestPutAndDropNeedMaps(t *testing.T) {
	all := []api.Value{{}, value.Bool(true), integer(1), text("a"), list(), list(integer(1)), future(1)}
	for _, v := range malformed() {
		all = append(all, v)
	}
	for _, v := range all {
		for _, key := range append([]string{"", "a", "b", "zz"}, v.Keys...) {
			got, e := value.Put(v, key, integer(1))
			checkMap(t, "Put to "+show(v), got, e, api.Value{}, api.ErrType)
			got, e = value.Drop(v, key)
			checkMap(t, "Drop from "+show(v), got, e, api.Value{}, api.ErrType)
		}
	}
}

// P2.10: after Put, the key has x and the other keys have what they had; Drop undoes the adding of a key.
func TestPutThenGet(t *testing.T) {
	keys := []string{"", "a", "aa", "b", "c", "\x80", "\xff"}
	x := list(text("x"))
	for set := range 1 << len(keys) {
		v := pairs()
		for i, key := range keys {
			if set>>i%2 == 1 {
				v.Keys, v.Items = append(v.Keys, key), append(v.Items, integer(i))
			}
		}
		for _, key := range keys {
			m, e := value.Put(v, key, x)
			if e != api.OK || !value.Right(m) {
				t.Fatalf("Put of %q into %s: error %d, %s", key, show(v), e, show(m))
			}
			checkItems(t, v, m, keys, key, x)
			if !slices.Contains(v.Keys, key) {
				back, e := value.Drop(m, key)
				checkMap(t, "Drop after Put", back, e, v, api.OK)
			}
		}
	}
}

// checkItems checks that m has x as the item of a key, and the items of v otherwise.
func checkItems(t *testing.T, v, m api.Value, keys []string, key string, x api.Value) {
	t.Helper()
	for _, k := range keys {
		want, had := value.Get(v, k)
		if k == key {
			want, had = x, true
		}
		if got, ok := value.Get(m, k); ok != had || show(got) != show(want) {
			t.Errorf("the key %q of %s, after Put of %q: %v, %s", k, show(v), key, ok, show(got))
		}
	}
}
