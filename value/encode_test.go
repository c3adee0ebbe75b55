package value_test

import (
	"bytes"
	"math"
	"math/rand"
	"slices"
	"strings"
	"testing"

	"workflow/api"
	"workflow/value"
	"workflow/wire"
)

// reference encodes a well-formed value by the chapter, with the functions of wire.
func reference(b []byte, v api.Value) []byte {
	b = wire.PutInt(b, v.Kind)
	switch v.Kind {
	case api.VBool, api.VInt, api.VFuture:
		b = wire.PutInt(b, v.Int)
	case api.VText:
		b = wire.PutText(b, v.Text)
	case api.VList:
		b = wire.PutInt(b, len(v.Items))
		for _, item := range v.Items {
			b = reference(b, item)
		}
	case api.VMap:
		b = wire.PutInt(b, len(v.Items))
		for i, item := range v.Items {
			b = reference(wire.PutText(b, v.Keys[i]), item)
		}
	}
	return b
}

// stop is what parse panics with when nothing further is read.
type stop api.Errno

// parse reads a value by P2.8, step by step, and leaves at the first error.
func parse(r *wire.Reader, begun *int, depth int) api.Value {
	read := func() int {
		n := r.Int(math.MinInt, math.MaxInt)
		must(r.Err() == api.OK, stop(r.Err()))
		return n
	}
	readText := func() string {
		s := r.Text(math.MaxInt)
		must(r.Err() == api.OK, stop(r.Err()))
		must(len(s) <= 4096, stop(api.ErrForm))
		return s
	}
	must(*begun < 1000 && depth <= 16, stop(api.ErrForm))
	*begun++
	v := api.Value{Kind: read()}
	must(v.Kind >= 0 && v.Kind <= 5, stop(api.ErrForm))
	switch v.Kind {
	case api.VBool, api.VInt:
		v.Int = read()
		must(v.Kind == api.VInt || v.Int == 0 || v.Int == 1, stop(api.ErrForm))
	case api.VText:
		v.Text = readText()
	case api.VList, api.VMap:
		n := read()
		must(n >= 0 && n <= 1000, stop(api.ErrForm))
		for i := range n {
			if v.Kind == api.VMap {
				v.Keys = append(v.Keys, readText())
				must(i == 0 || v.Keys[i] > v.Keys[i-1], stop(api.ErrForm))
			}
			v.Items = append(v.Items, parse(r, begun, depth+1))
		}
	}
	return v
}

func must(right bool, why stop) {
	if !right {
		panic(why)
	}
}

// expected returns what Decode is to return for b, the error of the reader, and how many bytes are left.
func expected(b []byte) (v api.Value, e api.Errno, left int) {
	defer func() {
		if why, ok := recover().(stop); ok {
			v, e, left = api.Value{}, api.Errno(why), 0
		}
	}()
	r := wire.Open(b)
	v = parse(r, new(int), 1)
	return v, api.OK, r.Left()
}

// checkDecode checks Decode of b against parse, and P2.9: what is read is the encoding of what is returned, a payload.
func checkDecode(t *testing.T, b []byte) {
	t.Helper()
	want, e, left := expected(b)
	r := wire.Open(b)
	got := value.Decode(r)
	if show(got) != show(want) || r.Err() != e || r.Left() != left {
		t.Fatalf("%.200x: %.200s, error %d, left %d, want %.200s, %d, %d", b, show(got), r.Err(), r.Left(), show(want), e, left)
	}
	if e == api.OK && (!value.Right(got) || !bytes.Equal(value.Encode(nil, got), b[:len(b)-left])) {
		t.Fatalf("%.200x: %.200s is not a payload of that encoding", b, show(got))
	}
}

// P2.7: encodings by their bytes.
func TestEncodings(t *testing.T) {
	for _, x := range []struct {
		v    api.Value
		want string
	}{
		{api.Value{}, "\x00"},
		{value.Bool(false), "\x02\x00"},
		{value.Bool(true), "\x02\x02"},
		{integer(0), "\x04\x00"},
		{integer(-1), "\x04\x01"},
		{integer(64), "\x04\x80\x01"},
		{integer(math.MinInt), "\x04\xff\xff\xff\xff\xff\xff\xff\xff\xff\x01"},
		{text(""), "\x06\x00"},
		{text("x\xff\x00"), "\x06\x06x\xff\x00"},
		{text(long(64)), "\x06\x80\x01" + long(64)},
		{list(), "\x08\x00"},
		{list(integer(5), text("x")), "\x08\x04\x04\x0a\x06\x02x"},
		{list(list(), list(api.Value{})), "\x08\x04\x08\x00\x08\x02\x00"},
		{nodes(1000), "\x08\xce\x0f" + strings.Repeat("\x00", 999)},
		{pairs(), "\x0a\x00"},
		{pairs("a", integer(1)), "\x0a\x02\x02a\x04\x02"},
		{pairs("", api.Value{}, "bc", pairs("d", list())), "\x0a\x04\x00\x00\x04bc\x0a\x02\x02d\x08\x00"},
		{future(0), "\x0c\x00"},
		{future(70), "\x0c\x8c\x01"},
		{list(future(3)), "\x08\x02\x0c\x06"},
	} {
		for _, front := range []string{"", "ab", long(100)} {
			if got := string(value.Encode([]byte(front), x.v)); got != front+x.want {
				t.Errorf("%.100s behind %q: %x, want %x", show(x.v), front, got, x.want)
			}
		}
	}
}

// P2.7: a value that is not well formed has no encoding; other values have one, also beyond the limits.
func TestEncodeOfOtherValues(t *testing.T) {
	for name, v := range malformed() {
		for _, front := range []string{"", "ab"} {
			if got := string(value.Encode([]byte(front), v)); got != front {
				t.Errorf("%s behind %q: %x", name, front, got)
			}
		}
	}
	for name, v := range outsiders() {
		if got := value.Encode([]byte("ab"), v); !bytes.Equal(got, reference([]byte("ab"), v)) {
			t.Errorf("%s: %.100x", name, got)
		}
	}
	for _, v := range payloads() {
		if got := value.Encode([]byte("ab"), v); !bytes.Equal(got, reference([]byte("ab"), v)) {
			t.Errorf("%.100s: %.100x", show(v), got)
		}
	}
	size := 2*(1<<16-1) + 1
	if got := value.Encode(nil, deep(1<<16)); len(got) != size || got[0] != 8 || got[size-1] != 0 {
		t.Errorf("a deep value: %d bytes, want %d", len(got), size)
	}
}

// P2.7: the result is new memory: b and its capacity stay as they are, and results are independent of each other.
func TestEncodeCopies(t *testing.T) {
	for _, v := range []api.Value{{}, text("xyz"), list(integer(1)), pairs("a", future(1)), {Kind: 9}, {Kind: api.VInt, Text: "x"}} {
		room := []byte("abcdefghijklmnopqrstuvwxyz")
		one, two := value.Encode(room[:2], v), value.Encode(room[:2], v)
		want := string(two)
		for i := range one[:cap(one)] {
			one[:cap(one)][i] = '!'
		}
		if string(room) != "abcdefghijklmnopqrstuvwxyz" || string(two) != want || want[:2] != "ab" {
			t.Errorf("%s: b is %q, another result %q", show(v), room, two)
		}
		copy(room, "??????????????????????????")
		if string(two) != want {
			t.Errorf("%s: the result keeps b", show(v))
		}
	}
}

// errorCase is an input with the error that it has.
type errorCase struct {
	b string
	e api.Errno
}

func checkErrors(t *testing.T, cases []errorCase) {
	t.Helper()
	for _, x := range cases {
		r := wire.Open([]byte(x.b))
		if v := value.Decode(r); r.Err() != x.e || show(v) != show(api.Value{}) || r.Left() != 0 || r.End() != x.e {
			t.Errorf("%.100x: %s, error %d, left %d, want the error %d", x.b, show(v), r.Err(), r.Left(), x.e)
		}
		checkDecode(t, []byte(x.b))
	}
}

// P2.8: each way to fail without items, and each error of the reader, in the order in which they are met.
func TestDecodeErrors(t *testing.T) {
	checkErrors(t, []errorCase{
		{"", api.ErrShort},
		{"\x80", api.ErrShort},
		{"\x80\x00", api.ErrForm},
		{"\x80\x80\x80\x80\x80\x80\x80\x80\x80\x80", api.ErrForm},
		{"\x01", api.ErrForm},         // kind -1
		{"\x0c\x00", api.ErrForm},     // a future
		{"\x0e", api.ErrForm},         // kind 7
		{"\x80\x80\x01", api.ErrForm}, // kind 8192
		{"\x02", api.ErrShort},
		{"\x02\x80", api.ErrShort},
		{"\x02\x04", api.ErrForm}, // boolean 2
		{"\x02\x01", api.ErrForm}, // boolean -1
		{"\x04", api.ErrShort},
		{"\x04\xff", api.ErrShort},
		{"\x04\xff\x00", api.ErrForm},
		{"\x06", api.ErrShort},
		{"\x06\x01", api.ErrRange},
		{"\x06\x02", api.ErrShort},
		{"\x06\x04a", api.ErrShort},
		{"\x06\x82\x00", api.ErrForm},
		{"\x06\x80\x40" + long(4095), api.ErrShort},
		{"\x06\x82\x40" + long(4097), api.ErrForm},
		{"\x06\x82\x40" + long(4096), api.ErrShort}, // the length is not restricted
	})
}

// P2.8: the same for lists and maps.
func TestDecodeErrorsOfItems(t *testing.T) {
	checkErrors(t, []errorCase{
		{"\x08", api.ErrShort},
		{"\x08\x01", api.ErrForm},
		{"\x08\xff\xff\xff\xff\xff\xff\xff\xff\xff\x01", api.ErrForm},
		{"\x08\x02", api.ErrShort},
		{"\x08\x04\x00", api.ErrShort},
		{"\x08\x04\x00\x0e", api.ErrForm},
		{"\x08\x04\x0c\x00\x00", api.ErrForm},
		{"\x08\xd0\x0f", api.ErrShort}, // 1000 items
		{"\x08\xd2\x0f", api.ErrForm},  // 1001 items
		{"\x08\xfe\xff\xff\xff\xff\xff\xff\xff\xff\x01", api.ErrForm},
		{"\x0a", api.ErrShort},
		{"\x0a\x01", api.ErrForm},
		{"\x0a\x02", api.ErrShort},
		{"\x0a\xd0\x0f", api.ErrShort},
		{"\x0a\xd2\x0f", api.ErrForm},
		{"\x0a\x02\x01", api.ErrRange},
		{"\x0a\x02\x02", api.ErrShort},
		{"\x0a\x02\x02a", api.ErrShort},
		{"\x0a\x02\x02a\x0c\x00", api.ErrForm},
		{"\x0a\x02\x82\x40" + long(4097) + "\x00", api.ErrForm},
		{"\x0a\x02\x82\x40" + long(4097), api.ErrForm},
		{"\x0a\x02\x82\x40" + long(4096), api.ErrShort},
		{"\x0a\x02\x80\x40" + long(4096), api.ErrShort},
		{"\x0a\x04\x02a\x00\x02a\x00", api.ErrForm},
		{"\x0a\x04\x02b\x00\x02a\x00", api.ErrForm},
		{"\x0a\x04\x02a\x00\x02a", api.ErrForm}, // the key fails before the item is missing
		{"\x0a\x04\x02a\x00\x00", api.ErrForm},
		{"\x0a\x04\x00\x00\x00", api.ErrForm},
		{"\x0a\x04\x02\x80\x00\x02a\x00", api.ErrForm},
		{"\x0a\x04\x02a\x00\x02b", api.ErrShort},
		{"\x0a\x04\x02a\x0a\x04\x02a\x00\x02a\x00\x02b\x00", api.ErrForm},
	})
}

// limitCase is an input around a limit, and the error that it has.
type limitCase struct {
	what string
	b    string
	e    api.Errno
}

func checkLimits(t *testing.T, cases []limitCase) {
	t.Helper()
	for _, x := range cases {
		r := wire.Open([]byte(x.b))
		if value.Decode(r); r.Err() != x.e {
			t.Errorf("%s: error %d, want %d", x.what, r.Err(), x.e)
		}
		checkDecode(t, []byte(x.b))
	}
}

// P2.8: MaxNodes values may begin, in all lists and maps together; before the next one Decode fails.
func TestDecodeCountsValues(t *testing.T) {
	zeros := func(n int) string { return strings.Repeat("\x00", n) }
	parts := func(a, b int) string {
		front := wire.PutInt([]byte("\x08\x04\x08"), a)
		return string(front) + zeros(a) + string(wire.PutInt([]byte("\x08"), b)) + zeros(b)
	}
	in := "\x08\x06\x08\xd0\x0f" // a list of 3 items, the first of which is a list of 1000 items
	checkLimits(t, []limitCase{
		{"1000 values", "\x08\xce\x0f" + zeros(999), api.OK},
		{"1000 values, the last one missing", "\x08\xce\x0f" + zeros(998), api.ErrShort},
		{"1001 values", "\x08\xd0\x0f" + zeros(1000), api.ErrForm},
		{"1001 values, the last one missing", "\x08\xd0\x0f" + zeros(999), api.ErrForm},
		{"1001 values, two of them missing", "\x08\xd0\x0f" + zeros(998), api.ErrShort},
		{"1001 values, the last one not complete", "\x08\xd0\x0f" + zeros(999) + "\x80", api.ErrForm},
		{"1000 values in two lists", parts(500, 497), api.OK},
		{"1001 values in two lists", parts(500, 498), api.ErrForm},
		{"1000 values in two lists, the last one missing", parts(500, 497)[:1004], api.ErrShort},
		{"1000 values, the last one after a list", "\x08\x04\x08\xca\x0f" + zeros(998), api.OK},
		{"1001 values, the last one after a list", "\x08\x04\x08\xcc\x0f" + zeros(999), api.ErrForm},
		{"a list as the 1001st value", in + zeros(998) + "\x08\xd0\x0f", api.ErrForm},
		{"an item of the 1000th value", in + zeros(997) + "\x08\xd0\x0f", api.ErrForm},
		{"an item of the 999th value", in + zeros(996) + "\x08\xd0\x0f", api.ErrShort},
		{"a key of the 1000th value", in + zeros(997) + "\x0a\x02\x02", api.ErrShort},
		{"an item of the 1000th value, after its key", in + zeros(997) + "\x0a\x02\x02a", api.ErrForm},
		{"the 1000th value in a map", in + zeros(996) + "\x0a\x04\x00\x00\x02", api.ErrShort},
		{"the 1001st value in a map", in + zeros(996) + "\x0a\x04\x00\x00\x02a", api.ErrForm},
	})
}

// P2.8: values may be at the depth MaxDepth; at the next one Decode fails before it reads anything of them.
func TestDecodeCountsDepth(t *testing.T) {
	lists := func(n int) string { return strings.Repeat("\x08\x02", n) }
	inMaps := func(n int) string { return strings.Repeat("\x0a\x02\x00", n) }
	many := func(n int) string { return strings.Repeat("\x08\xd0\x0f", n) }
	checkLimits(t, []limitCase{
		{"depth 16", lists(15) + "\x00", api.OK},
		{"depth 16, an empty list", lists(15) + "\x08\x00", api.OK},
		{"depth 16, missing", lists(15), api.ErrShort},
		{"depth 17", lists(16) + "\x00", api.ErrForm},
		{"depth 17, missing", lists(16), api.ErrForm},
		{"depth 16 in maps", inMaps(15) + "\x00", api.OK},
		{"depth 17 in maps", inMaps(16) + "\x00", api.ErrForm},
		{"depth 17 in maps, missing", inMaps(16), api.ErrForm},
		{"depth 17 in maps, its key missing", inMaps(15) + "\x0a\x02", api.ErrShort},
		{"depth 17 in maps, its key malformed", inMaps(15) + "\x0a\x02\x01", api.ErrRange},
		{"depth 16 in lists and maps", lists(8) + inMaps(7) + "\x00", api.OK},
		{"depth 17 in lists and maps", lists(8) + inMaps(8), api.ErrForm},
		{"depth 16 twice", "\x08\x04" + lists(14) + "\x00" + lists(14) + "\x00", api.OK},
		{"depth 16, then 17", "\x08\x04" + lists(14) + "\x00" + lists(15) + "\x00", api.ErrForm},
		{"depth 17 among many items", many(16), api.ErrForm},
		{"depth 16 among many items", many(15), api.ErrShort},
		{"many items at depth 16", many(15) + strings.Repeat("\x00", 2000), api.ErrForm},
	})
}

// P2.8: strings and keys have at most MaxText bytes, each by itself.
func TestDecodeOfLongTexts(t *testing.T) {
	most, more := "\x80\x40"+long(4096), "\x82\x40"+long(4097)
	checkLimits(t, []limitCase{
		{"4096 bytes", "\x06" + most, api.OK},
		{"4097 bytes", "\x06" + more, api.ErrForm},
		{"4096 bytes twice", "\x08\x04\x06" + most + "\x06" + most, api.OK},
		{"4096 bytes, then 4097", "\x08\x04\x06" + most + "\x06" + more, api.ErrForm},
		{"4096 bytes as a key", "\x0a\x02" + most + "\x06" + most, api.OK},
		{"4097 bytes as a key", "\x0a\x02" + more + "\x00", api.ErrForm},
		{"4097 bytes as the second key", "\x0a\x04\x02a\x00" + more + "\x00", api.ErrForm},
		{"4097 bytes behind a key", "\x0a\x02\x02a\x06" + more, api.ErrForm},
	})
}

// P2.8, P2.9: all short inputs of the bytes that matter.
func TestDecodeOfShortInputs(t *testing.T) {
	alphabet := []byte{0, 1, 2, 3, 4, 6, 8, 10, 12, 14, 'a', 'b', 128}
	var visit func(b []byte)
	visit = func(b []byte) {
		checkDecode(t, b)
		if len(b) == 5 {
			return
		}
		for _, c := range alphabet {
			visit(append(slices.Clone(b), c))
		}
	}
	visit(nil)
	for c := range 256 {
		for d := range 256 {
			checkDecode(t, []byte{byte(c), byte(d), 0, 2, 'a', 0})
			checkDecode(t, []byte{8, 4, byte(c), byte(d), 0, 0})
		}
	}
}

// P2.8, P2.9: encodings of payloads with a byte changed, removed or added, and all their beginnings.
func TestDecodeOfDamagedInputs(t *testing.T) {
	random := rand.New(rand.NewSource(2))
	for _, v := range payloads()[:700] {
		b := value.Encode(nil, v)
		for size := range min(len(b), 40) {
			checkDecode(t, b[:size])
		}
		for range 10 {
			at := random.Intn(len(b))
			damaged := slices.Clone(b)
			damaged[at] = byte(random.Intn(16))
			checkDecode(t, damaged)
			checkDecode(t, slices.Delete(slices.Clone(b), at, at+1))
			checkDecode(t, slices.Insert(slices.Clone(b), at, byte(random.Intn(16))))
		}
	}
}

// P2.9: payloads are read back, whatever follows them.
func TestPayloadsAreReadBack(t *testing.T) {
	for _, v := range payloads() {
		for _, tail := range []string{"", "\x00", "\x80", "\x08\x04", "\xff\xff\xff\xff\xff\xff\xff\xff\xff\xff"} {
			r := wire.Open(append(value.Encode(nil, v), tail...))
			if got := value.Decode(r); show(got) != show(v) || r.Err() != api.OK || r.Left() != len(tail) {
				t.Errorf("%.100s before %x: %.100s, error %d, left %d", show(v), tail, show(got), r.Err(), r.Left())
			}
		}
	}
}

// P2.9: what is not a payload is not read back, but as an error.
func TestOtherValuesAreNotReadBack(t *testing.T) {
	for name, v := range outsiders() {
		r := wire.Open(value.Encode(nil, v))
		if got := value.Decode(r); r.Err() != api.ErrForm || show(got) != show(api.Value{}) {
			t.Errorf("%s: error %d, %.100s", name, r.Err(), show(got))
		}
	}
}

// P2.8: Decode reads one value, where the reader is, and each call counts its values anew.
func TestDecodeReadsOneAfterTheOther(t *testing.T) {
	all := payloads()
	all = append(all, all[len(all)-8:]...)
	b := []byte("\x08")
	for _, v := range all {
		b = append(value.Encode(b, v), 2)
	}
	r := wire.Open(b)
	r.Int(4, 4)
	for i, v := range all {
		if got := value.Decode(r); show(got) != show(v) || r.Int(1, 1) != 1 {
			t.Fatalf("value %d: %.100s, error %d, want %.100s", i, show(got), r.Err(), show(v))
		}
	}
	if r.End() != api.OK {
		t.Errorf("the end: error %d", r.End())
	}
}

// P2.8: a reader with an error keeps it, and nothing is read.
func TestDecodeOfReadersWithAnError(t *testing.T) {
	for e := api.ErrNil; e <= api.ErrSeq; e++ {
		r := wire.Open([]byte{4, 10, 14, 12})
		if r.Int(2, 2); e%2 == 0 {
			r.Bool()
		}
		want := r.Err()
		if want == api.OK {
			r.Fail(e)
			want = e
		}
		for range 2 {
			if v := value.Decode(r); show(v) != show(api.Value{}) || r.Err() != want || r.Left() != 0 {
				t.Errorf("error %d: %s, error %d", want, show(v), r.Err())
			}
		}
	}
}

// P2.8: a nil Reader and one that Open did not return.
func TestDecodeOfReadersOfNobody(t *testing.T) {
	for name, r := range map[string]*wire.Reader{"nil": nil, "zero": {}, "new": new(wire.Reader)} {
		for range 2 {
			if v := value.Decode(r); show(v) != show(api.Value{}) || r.Err() != api.ErrNil {
				t.Errorf("%s: %s, error %d", name, show(v), r.Err())
			}
		}
	}
}
