package wire_test

import (
	"bytes"
	"math"
	"math/big"
	"slices"
	"strings"
	"testing"

	"workflow/api"
	"workflow/wire"
)

// encode encodes n as the chapter says, in numbers without a limit, so that it shares no trick with the package.
func encode(n int) []byte {
	u := new(big.Int).Mul(big.NewInt(int64(n)), big.NewInt(2))
	if n < 0 {
		u.Neg(u).Sub(u, big.NewInt(1))
	}
	base, group := big.NewInt(128), new(big.Int)
	b := []byte{}
	for {
		u.QuoRem(u, base, group)
		if u.Sign() == 0 {
			return append(b, byte(group.Int64()))
		}
		b = append(b, byte(group.Int64())+128)
	}
}

// decode reads the integer at the start of b by P1.3, without a range.
func decode(b []byte) (n, size int, e api.Errno) {
	k := slices.IndexFunc(b[:min(len(b), 10)], func(c byte) bool { return c < 128 }) + 1
	if k == 0 && len(b) >= 10 {
		return 0, 0, api.ErrForm
	}
	if k == 0 {
		return 0, 0, api.ErrShort
	}
	if last := b[k-1]; k > 1 && last == 0 || k == 10 && last > 1 {
		return 0, 0, api.ErrForm
	}
	u := new(big.Int)
	for i := k - 1; i >= 0; i-- {
		u.Mul(u, big.NewInt(128)).Add(u, big.NewInt(int64(b[i]%128)))
	}
	if u.Bit(0) == 1 {
		u.Add(u, big.NewInt(1)).Neg(u)
	}
	return int(u.Quo(u, big.NewInt(2)).Int64()), k, api.OK
}

// someInts returns integers of every length, and those around each change of length.
func someInts() []int {
	ints := []int{0, math.MaxInt, math.MinInt, 0x123456789abcdef, -0x123456789abcdef}
	for shift := range 63 {
		for d := -2; d <= 2; d++ {
			ints = append(ints, 1<<shift+d, -1<<shift+d)
		}
	}
	ints = append(ints, math.MaxInt-1, math.MinInt+1)
	slices.Sort(ints)
	return slices.Compact(ints)
}

// someBytes returns all inputs of up to two bytes, and inputs of up to twelve bytes from those that matter.
func someBytes() [][]byte {
	all := [][]byte{{}}
	for c := range 256 {
		all = append(all, []byte{byte(c)})
		for d := range 256 {
			all = append(all, []byte{byte(c), byte(d)})
		}
	}
	ends := []string{"", "\x00", "\x01", "\x02", "\x03", "\x7e", "\x7f", "\x80", "\xff", "\x00\x01", "\x01\x00", "\x02\x80"}
	for _, c := range []string{"\x80", "\x81", "\xfe", "\xff"} {
		for _, d := range []string{"\x80", "\xaa", "\xff"} {
			for size := range 11 {
				for _, end := range ends {
					all = append(all, []byte(c+strings.Repeat(d, size)+end))
				}
			}
		}
	}
	return all
}

// P1.1: each encoding by its bytes, as the chapter's examples give them.
func TestEncodings(t *testing.T) {
	for _, x := range []struct {
		got  []byte
		want string
	}{
		{wire.PutInt(nil, 0), "\x00"},
		{wire.PutInt(nil, -1), "\x01"},
		{wire.PutInt(nil, 1), "\x02"},
		{wire.PutInt(nil, 63), "\x7e"},
		{wire.PutInt(nil, -64), "\x7f"},
		{wire.PutInt(nil, 64), "\x80\x01"},
		{wire.PutInt(nil, -65), "\x81\x01"},
		{wire.PutInt(nil, math.MaxInt), "\xfe\xff\xff\xff\xff\xff\xff\xff\xff\x01"},
		{wire.PutInt(nil, math.MinInt), "\xff\xff\xff\xff\xff\xff\xff\xff\xff\x01"},
		{wire.PutText(nil, ""), "\x00"},
		{wire.PutText(nil, "ab"), "\x04ab"},
		{wire.PutText(nil, "\xff\x00"), "\x04\xff\x00"},
		{wire.PutText(nil, strings.Repeat("x", 64)), "\x80\x01" + strings.Repeat("x", 64)},
		{wire.PutBool(nil, true), "\x01"},
		{wire.PutBool(nil, false), "\x00"},
		{wire.PutInt([]byte("ab"), 1), "ab\x02"},
		{wire.PutText([]byte("ab"), "c"), "ab\x02c"},
		{wire.PutBool([]byte("ab"), true), "ab\x01"},
		{wire.PutBool([]byte("ab"), false), "ab\x00"},
	} {
		if string(x.got) != x.want {
			t.Errorf("%x, want %x", x.got, x.want)
		}
	}
}

// P1.1: integers of every length, against the definition.
func TestPutIntFollowsTheDefinition(t *testing.T) {
	sizes := map[int]bool{}
	for _, n := range someInts() {
		got := wire.PutInt([]byte{7}, n)
		if want := append([]byte{7}, encode(n)...); !bytes.Equal(got, want) {
			t.Errorf("PutInt(7, %d) = %x, want %x", n, got, want)
		}
		sizes[len(got)-1] = true
	}
	for size := 1; size <= 10; size++ {
		if !sizes[size] {
			t.Errorf("no integer of %d bytes", size)
		}
	}
}

// P1.1: the result is new, whatever capacity b has, and b stays as it is.
func TestPutReturnsNewSlices(t *testing.T) {
	for name, put := range map[string]func(b []byte) []byte{
		"PutInt":       func(b []byte) []byte { return wire.PutInt(b, 5) },
		"PutText":      func(b []byte) []byte { return wire.PutText(b, "hi") },
		"PutText none": func(b []byte) []byte { return wire.PutText(b, "") },
		"PutBool":      func(b []byte) []byte { return wire.PutBool(b, true) },
		"PutBool no":   func(b []byte) []byte { return wire.PutBool(b, false) },
	} {
		room := []byte("abcdefghijklmnop")
		first := put(room[:2])
		second := put(room[:2])
		want := string(second)
		for i := range first {
			first[i] = '!'
		}
		_ = append(first, "!!!!"...)
		if string(room) != "abcdefghijklmnop" {
			t.Errorf("%s has changed the memory of b: %q", name, room)
		}
		if string(second) != want || want[:2] != "ab" {
			t.Errorf("%s: two results share memory: %q", name, second)
		}
	}
}

// P1.2: values are read from the front, one after the other, and Left counts what remains.
func TestReadsInOrder(t *testing.T) {
	b := wire.PutInt(nil, -300)
	b = wire.PutText(b, "name")
	b = wire.PutBool(b, true)
	b = wire.PutBool(b, false)
	b = wire.PutText(b, "")
	b = wire.PutInt(b, 9)
	r := wire.Open(b)
	left := len(b)
	check := func(what string, right bool, size int) {
		t.Helper()
		left -= size
		if !right || r.Left() != left || r.Err() != api.OK {
			t.Errorf("%s: right %v, left %d, want %d, error %d", what, right, r.Left(), left, r.Err())
		}
	}
	check("start", true, 0)
	check("Int", r.Int(-300, 0) == -300, 2)
	check("Text", r.Text(4) == "name", 5)
	check("Bool", r.Bool(), 1)
	check("Bool", !r.Bool(), 1)
	check("Text", r.Text(0) == "", 1)
	if r.End() != api.ErrForm {
		t.Error("End does not see the byte that is left")
	}
	check("Int", r.Int(9, 9) == 9, 1)
	if r.End() != api.OK || left != 0 {
		t.Error("End does not see the end")
	}
}

// P1.2: a reader reads a copy of b, and each reader its own.
func TestOpenCopies(t *testing.T) {
	b := wire.PutText(nil, "safe")
	r, other := wire.Open(b), wire.Open(b)
	for i := range b {
		b[i] = 0xff
	}
	if s := r.Text(9); s != "safe" || r.End() != api.OK {
		t.Errorf("%q, %d", s, r.Err())
	}
	if other.Left() != 5 || other.Text(9) != "safe" {
		t.Error("two readers share their place")
	}
	for _, none := range [][]byte{nil, {}} {
		if r := wire.Open(none); r == nil || r.Err() != api.OK || r.Left() != 0 || r.End() != api.OK {
			t.Error("a reader of no bytes has an error")
		}
	}
	if r := wire.Open([]byte{2, 4, 6}[:1]); r.Left() != 1 || r.Int(0, 9) != 1 || r.Int(0, 9) != 0 || r.Err() != api.ErrShort {
		t.Error("a reader reads the capacity of b")
	}
}

// P1.3: each error of Int, by its bytes.
func TestIntErrors(t *testing.T) {
	nine := strings.Repeat("\x80", 9)
	for _, x := range []struct {
		b         string
		low, high int
		want      api.Errno
	}{
		{"", math.MinInt, math.MaxInt, api.ErrShort},
		{"\x80", math.MinInt, math.MaxInt, api.ErrShort},
		{nine, math.MinInt, math.MaxInt, api.ErrShort},
		{nine + "\x80", math.MinInt, math.MaxInt, api.ErrForm},
		{nine + "\xff", math.MinInt, math.MaxInt, api.ErrForm},
		{nine + "\x80\x01", math.MinInt, math.MaxInt, api.ErrForm},
		{nine + "\x00", math.MinInt, math.MaxInt, api.ErrForm},
		{nine + "\x02", math.MinInt, math.MaxInt, api.ErrForm},
		{nine + "\x7f", math.MinInt, math.MaxInt, api.ErrForm},
		{nine + "\x01", math.MinInt, math.MaxInt, api.OK},
		{nine[:8] + "\x02", math.MinInt, math.MaxInt, api.OK},
		{"\x80\x00", math.MinInt, math.MaxInt, api.ErrForm},
		{"\xff\x00", math.MinInt, math.MaxInt, api.ErrForm},
		{"\x80\x80\x00", math.MinInt, math.MaxInt, api.ErrForm},
		{"\x80\x00", 5, 1, api.ErrForm},
		{"\x80", 5, 1, api.ErrShort},
		{"\x00", 5, 1, api.ErrRange},
		{"\x00", math.MinInt, math.MaxInt, api.OK},
		{"\x12", -5, 9, api.OK},
		{"\x14", -5, 9, api.ErrRange},
		{"\x09", -5, 9, api.OK},
		{"\x0b", -5, 9, api.ErrRange},
		{"\xff\xff\xff\xff\xff\xff\xff\xff\xff\x01", math.MinInt, math.MinInt, api.OK},
		{"\xff\xff\xff\xff\xff\xff\xff\xff\xff\x01", math.MinInt + 1, math.MaxInt, api.ErrRange},
		{"\xfe\xff\xff\xff\xff\xff\xff\xff\xff\x01", math.MaxInt, math.MaxInt, api.OK},
		{"\xfe\xff\xff\xff\xff\xff\xff\xff\xff\x01", math.MinInt, math.MaxInt - 1, api.ErrRange},
	} {
		r := wire.Open([]byte(x.b))
		if n := r.Int(x.low, x.high); r.Err() != x.want || x.want != api.OK && n != 0 {
			t.Errorf("%x from %d to %d: %d, error %d, want %d", x.b, x.low, x.high, n, r.Err(), x.want)
		}
	}
}

// P1.3, P1.9: all kinds of bytes are read as the definition says, and what is read is the encoding of the result.
func TestIntOfAnyBytes(t *testing.T) {
	for _, b := range someBytes() {
		n, size, e := decode(b)
		r := wire.Open(b)
		got := r.Int(math.MinInt, math.MaxInt)
		if got != n || r.Err() != e {
			t.Fatalf("%x: %d, error %d, want %d, %d", b, got, r.Err(), n, e)
		}
		if e != api.OK {
			continue
		}
		if r.Left() != len(b)-size || !bytes.Equal(wire.PutInt(nil, got), b[:size]) {
			t.Fatalf("%x: %d bytes left after %d, which is encoded as %x", b, r.Left(), got, wire.PutInt(nil, got))
		}
	}
}

// P1.4: the errors of Text are those of its length, then ErrShort for its bytes.
func TestText(t *testing.T) {
	long := strings.Repeat("y", 100)
	for _, x := range []struct {
		b    string
		most int
		want string
		e    api.Errno
	}{
		{"\x04ab", 2, "ab", api.OK},
		{"\x04ab", math.MaxInt, "ab", api.OK},
		{"\x04\xff\x00", 2, "\xff\x00", api.OK},
		{"\x00", 0, "", api.OK},
		{"\xc8\x01" + long, 100, long, api.OK},
		{"\xc8\x01" + long, 99, "", api.ErrRange},
		{"\xc8\x01" + long[1:], 100, "", api.ErrShort},
		{"\x04a", 9, "", api.ErrShort},
		{"\x04", 9, "", api.ErrShort},
		{"\x04a", 1, "", api.ErrRange},
		{"\x01", 9, "", api.ErrRange},
		{"\x00", -1, "", api.ErrRange},
		{"\x02a", math.MinInt, "", api.ErrRange},
		{"", 9, "", api.ErrShort},
		{"\x80", 9, "", api.ErrShort},
		{"\x80\x00", 9, "", api.ErrForm},
		{"\x84\x00ab", 9, "", api.ErrForm},
		{"\xfe\xff\xff\xff\xff\xff\xff\xff\xff\x01ab", math.MaxInt, "", api.ErrShort},
		{"\xff\xff\xff\xff\xff\xff\xff\xff\xff\x01ab", math.MaxInt, "", api.ErrRange},
	} {
		r := wire.Open([]byte(x.b))
		if s := r.Text(x.most); s != x.want || r.Err() != x.e {
			t.Errorf("%x, at most %d: %q, error %d, want %q, %d", x.b, x.most, s, r.Err(), x.want, x.e)
		}
	}
}

// P1.4: Bool reads one byte, 0 or 1.
func TestBool(t *testing.T) {
	for c := range 256 {
		r := wire.Open([]byte{byte(c), 1})
		yes := r.Bool()
		if c > 1 {
			if yes || r.Err() != api.ErrForm {
				t.Errorf("%d: %v, error %d", c, yes, r.Err())
			}
			continue
		}
		if yes != (c == 1) || r.Err() != api.OK || r.Left() != 1 {
			t.Errorf("%d: %v, error %d, left %d", c, yes, r.Err(), r.Left())
		}
	}
	if r := wire.Open(nil); r.Bool() || r.Err() != api.ErrShort {
		t.Errorf("no byte: error %d", r.Err())
	}
}

// checkFailed checks that a reader has an error, which no call changes, and reads nothing any more.
func checkFailed(t *testing.T, r *wire.Reader, want api.Errno) {
	t.Helper()
	for range 2 {
		if r.Err() != want || r.End() != want || r.Left() != 0 {
			t.Errorf("error %d, end %d, left %d, want the error %d", r.Err(), r.End(), r.Left(), want)
		}
		if r.Int(math.MinInt, math.MaxInt) != 0 || r.Int(5, 9) != 0 || r.Text(9) != "" || r.Bool() {
			t.Error("a value is read after an error")
		}
		r.Fail(api.ErrQuorum)
		r.Fail(api.OK)
	}
}

// P1.5: the first error is kept, whichever call has it, although the bytes that follow could be read.
func TestTheFirstErrorIsKept(t *testing.T) {
	for i, x := range []struct {
		b    string
		read func(r *wire.Reader)
		want api.Errno
	}{
		{"\x14\x02a\x01", func(r *wire.Reader) { r.Int(0, 9) }, api.ErrRange},
		{"\x80\x00\x02a\x01", func(r *wire.Reader) { r.Int(0, 9) }, api.ErrForm},
		{"\x80", func(r *wire.Reader) { r.Int(0, 9) }, api.ErrShort},
		{"\x14\x02a\x01", func(r *wire.Reader) { r.Text(9) }, api.ErrRange},
		{"\x14\x02a\x01", func(r *wire.Reader) { r.Text(10) }, api.ErrShort},
		{"\x03\x01", func(r *wire.Reader) { r.Bool() }, api.ErrForm},
		{"", func(r *wire.Reader) { r.Bool() }, api.ErrShort},
		{"\x02\x02", func(r *wire.Reader) { r.Fail(api.ErrSum) }, api.ErrSum},
		{"\x01\x01", func(r *wire.Reader) { r.Fail(api.ErrSum) }, api.ErrSum},
		{"\x02a", func(r *wire.Reader) { r.Fail(api.ErrSum) }, api.ErrSum},
		{"\x01\x01\x01", func(r *wire.Reader) { r.Int(0, 9) }, api.ErrRange},
		{"\x02\x02", func(r *wire.Reader) { r.Fail(api.ErrSeq); r.Fail(api.ErrSum) }, api.ErrSeq},
	} {
		r := wire.Open([]byte(x.b))
		x.read(r)
		if r.Err() != x.want {
			t.Errorf("case %d: error %d, want %d", i, r.Err(), x.want)
		}
		checkFailed(t, r, x.want)
	}
}

// P1.5: Fail(OK) has no effect, and Fail sets any other code, also in the middle and at the end of the bytes.
func TestFail(t *testing.T) {
	r := wire.Open([]byte{2, 4})
	r.Fail(api.OK)
	if r.Err() != api.OK || r.Left() != 2 || r.Int(0, 9) != 1 {
		t.Error("Fail(OK) has an effect")
	}
	r.Fail(api.ErrTwice)
	checkFailed(t, r, api.ErrTwice)
	for e := api.ErrNil; e <= api.ErrSeq; e++ {
		r := wire.Open(nil)
		r.Fail(e)
		checkFailed(t, r, e)
	}
}

// P1.6: End reports bytes that are left, but does not keep that as an error.
func TestEndHasNoEffect(t *testing.T) {
	r := wire.Open([]byte{2, 4})
	for range 2 {
		if r.End() != api.ErrForm || r.Err() != api.OK || r.Left() != 2 {
			t.Errorf("end %d, error %d, left %d", r.End(), r.Err(), r.Left())
		}
	}
	if r.Int(0, 9) != 1 || r.End() != api.ErrForm || r.Int(0, 9) != 2 || r.End() != api.OK || r.Err() != api.OK {
		t.Error("End disturbs the reader")
	}
	if r.Int(0, 9) != 0 || r.End() != api.ErrShort {
		t.Error("End hides the error of the reader")
	}
	r = wire.Open([]byte{2, 4})
	r.Fail(api.ErrSum)
	if r.End() != api.ErrSum {
		t.Error("End reports bytes that are left before the error of the reader")
	}
}

// P1.7: a nil Reader and one that Open did not return.
func TestReadersOfNobody(t *testing.T) {
	for name, r := range map[string]*wire.Reader{"nil": nil, "zero": {}, "new": new(wire.Reader)} {
		for range 2 {
			if r.Err() != api.ErrNil || r.End() != api.ErrNil || r.Left() != 0 {
				t.Errorf("%s: error %d, end %d, left %d", name, r.Err(), r.End(), r.Left())
			}
			if r.Int(-9, 9) != 0 || r.Int(5, 9) != 0 || r.Text(9) != "" || r.Text(0) != "" || r.Bool() {
				t.Errorf("%s: a value is read", name)
			}
			r.Fail(api.ErrSum)
			r.Fail(api.OK)
		}
	}
}

// P1.8: an integer is read back from its encoding, whatever follows and however narrow the range is.
func TestIntsAreReadBack(t *testing.T) {
	for _, n := range someInts() {
		for _, tail := range []string{"", "\x00", "\x01", "\x80", "\xff\xff\xff\xff\xff\xff\xff\xff\xff\xff\xff"} {
			b := append(wire.PutInt(nil, n), tail...)
			for _, limits := range [][2]int{{n, n}, {math.MinInt, math.MaxInt}, {math.MinInt, n}, {n, math.MaxInt}} {
				r := wire.Open(b)
				if got := r.Int(limits[0], limits[1]); got != n || r.Err() != api.OK || r.Left() != len(tail) {
					t.Errorf("%d before %x: %d, error %d, left %d", n, tail, got, r.Err(), r.Left())
				}
			}
		}
	}
}

// P1.8: strings and booleans are read back, whatever follows.
func TestTextsAndBoolsAreReadBack(t *testing.T) {
	for _, tail := range []string{"", "\x00", "\x01", "\x80", "\xff\xff"} {
		for _, size := range []int{0, 1, 2, 63, 64, 65, 8191, 8192, 100000} {
			s := strings.Repeat("\x00\xffa\x80", size/4+1)[:size]
			for _, most := range []int{size, size + 1, math.MaxInt} {
				r := wire.Open(append(wire.PutText(nil, s), tail...))
				if got := r.Text(most); got != s || r.Err() != api.OK || r.Left() != len(tail) {
					t.Errorf("a string of %d bytes before %x: %d bytes, error %d, left %d", size, tail, len(got), r.Err(), r.Left())
				}
			}
		}
		for _, yes := range []bool{false, true} {
			r := wire.Open(append(wire.PutBool(nil, yes), tail...))
			if got := r.Bool(); got != yes || r.Err() != api.OK || r.Left() != len(tail) {
				t.Errorf("%v before %x: %v, error %d, left %d", yes, tail, got, r.Err(), r.Left())
			}
		}
	}
}

// P1.9: the bytes that Text and Bool read are the encoding of what they return.
func TestTextAndBoolReadOneEncoding(t *testing.T) {
	for _, b := range someBytes() {
		long := append(slices.Clone(b), "abcdefgh"...)
		for _, most := range []int{0, 3, math.MaxInt} {
			r := wire.Open(long)
			s := r.Text(most)
			if r.Err() == api.OK && !bytes.Equal(wire.PutText(nil, s), long[:len(long)-r.Left()]) {
				t.Fatalf("%x: Text reads %q, with %d bytes left", long, s, r.Left())
			}
		}
		r := wire.Open(b)
		yes := r.Bool()
		if r.Err() == api.OK && !bytes.Equal(wire.PutBool(nil, yes), b[:len(b)-r.Left()]) {
			t.Fatalf("%x: Bool reads %v, with %d bytes left", b, yes, r.Left())
		}
	}
}

// P1.9: no encoding of an integer begins with that of another one.
func TestNoEncodingIsAPrefix(t *testing.T) {
	ints := someInts()
	for _, n := range ints {
		for _, other := range ints {
			if n != other && bytes.HasPrefix(wire.PutInt(nil, n), wire.PutInt(nil, other)) {
				t.Fatalf("the encoding of %d begins with that of %d", n, other)
			}
		}
	}
}
