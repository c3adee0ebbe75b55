package hash_test

import (
	"encoding/binary"
	"hash/crc32"
	"hash/fnv"
	"math"
	"slices"
	"strings"
	"sync"
	"testing"

	"workflow/hash"
)

// refFnv is the FNV-1a hash of Go's library, which shares nothing with the package.
func refFnv(s string) int {
	h := fnv.New32a()
	h.Write([]byte(s))
	return int(h.Sum32())
}

// refCrc is the CRC-32 of Go's library.
func refCrc(b []byte) int { return int(crc32.ChecksumIEEE(b)) }

// refMix is Mix by P4.3, with the 16 bytes written out.
func refMix(a, b int) int {
	joined := binary.BigEndian.AppendUint64(nil, uint64(a))
	joined = binary.BigEndian.AppendUint64(joined, uint64(b))
	return refFnv(string(joined)) % (1 << 31)
}

// mixedBytes returns size bytes of all values, in an order without a short period.
func mixedBytes(size int) []byte {
	b := make([]byte, size)
	for i := range b {
		b[i] = byte(i*i + i/7*31 + i>>8)
	}
	return b
}

// allBytes returns the 256 bytes in order.
func allBytes() []byte {
	b := make([]byte, 256)
	for i := range b {
		b[i] = byte(i)
	}
	return b
}

// someBytes returns all inputs of up to two bytes, and longer ones up to a million bytes.
func someBytes() [][]byte {
	all := [][]byte{nil, {}}
	for c := range 256 {
		all = append(all, []byte{byte(c)})
		for d := range 256 {
			all = append(all, []byte{byte(c), byte(d)})
		}
	}
	for _, c := range []string{"\x00", "\x01", "a", "\x7f", "\x80", "\xfe", "\xff"} {
		for _, size := range []int{3, 4, 5, 8, 31, 32, 33, 255, 256, 257} {
			all = append(all, []byte(strings.Repeat(c, size)))
		}
	}
	for size := range 70 {
		all = append(all, mixedBytes(size))
	}
	backwards := allBytes()
	slices.Reverse(backwards)
	all = append(all, allBytes(), backwards, mixedBytes(65535), mixedBytes(65536), mixedBytes(1000003))
	for _, s := range []string{"foobar", "Foobar", "123456789", "order/r1", "grün", "日本語", "\xc3\x28", "a\x00b", "\n\t\"\\"} {
		all = append(all, []byte(s))
	}
	return all
}

// someInts returns the bounds of 64 bits, the numbers around each power of two and its negative, and ordinary ones.
func someInts() []int {
	ints := []int{math.MaxInt, math.MinInt, math.MaxInt - 1, math.MinInt + 1, 5, -2, 1234567890123456789, -1234567890123456789, 0x0102030405060708}
	for shift := range 63 {
		for d := -1; d <= 1; d++ {
			ints = append(ints, 1<<shift+d, -1<<shift+d)
		}
	}
	slices.Sort(ints)
	return slices.Compact(ints)
}

// P4.1: hashes by their numbers, the chapter's examples among them.
func TestFnv(t *testing.T) {
	for s, want := range map[string]int{
		"":                 2166136261,
		"a":                3826002220,
		"b":                3876335077,
		"foobar":           3214735720,
		"123456789":        3146166556,
		"order/r1":         2154127053,
		"/":                705468254,
		"\x00":             84696351,
		"\x80":             2232128415,
		"\xff":             2047574606,
		"gr\xc3\xbcn":      1616422199,
		string(allBytes()): 2426689733,
	} {
		if got := hash.Fnv(s); got != want {
			t.Errorf("Fnv(%q) = %d, want %d", s, got, want)
		}
	}
}

// P4.1: short strings of all bytes, and long ones, against the library's hash.
func TestFnvOfAnyBytes(t *testing.T) {
	for _, b := range someBytes() {
		if got, want := hash.Fnv(string(b)), refFnv(string(b)); got != want {
			t.Errorf("Fnv(%.80q) = %d, want %d", b, got, want)
		}
	}
}

// P4.2: checksums by their numbers, the chapter's examples among them.
func TestCrc(t *testing.T) {
	for s, want := range map[string]int{
		"":          0,
		"a":         3904355907,
		"123456789": 3421780262,
		"\x00":      3523407757,
		"\x80":      1069182125,
		"\xff":      4278190080,
		"The quick brown fox jumps over the lazy dog": 1095738169,
		strings.Repeat("\x00", 32):                    420107693,
		strings.Repeat("\xff", 32):                    4285311755,
		string(allBytes()[:32]):                       2435219082,
		string(allBytes()):                            688229491,
	} {
		if got := hash.Crc([]byte(s)); got != want {
			t.Errorf("Crc(%q) = %d, want %d", s, got, want)
		}
	}
	if got := hash.Crc(nil); got != 0 {
		t.Errorf("Crc(nil) = %d", got)
	}
}

// P4.2: short inputs of all bytes, and long ones, against the library's checksum.
func TestCrcOfAnyBytes(t *testing.T) {
	for _, b := range someBytes() {
		if got, want := hash.Crc(b), refCrc(b); got != want {
			t.Errorf("Crc(%.80q) = %d, want %d", b, got, want)
		}
	}
}

// P4.2: the bytes are not changed, and those beyond the length do not count.
func TestCrcLeavesBytes(t *testing.T) {
	room := mixedBytes(100)
	for size := range 101 {
		if got, want := hash.Crc(room[:size]), refCrc(mixedBytes(size)); got != want {
			t.Errorf("Crc of the first %d bytes: %d, want %d", size, got, want)
		}
	}
	if !slices.Equal(room, mixedBytes(100)) {
		t.Error("Crc has changed its argument")
	}
}

// P4.3: results by their numbers. Those of a hash with bit 31 set show that this bit is left out.
func TestMix(t *testing.T) {
	for _, x := range []struct{ a, b, want int }{
		{0, 0, 1768495365},
		{0, 1, 1751717746},
		{1, 0, 1210079250},
		{1, 2, 1176524012},
		{2, 1, 634885516},
		{5, -2, 2145029329},
		{-2, 5, 708580177},
		{-1, -1, 906459637},
		{math.MaxInt, math.MinInt, 3033829373 - 1<<31},
		{math.MinInt, math.MaxInt, 2407205117 - 1<<31},
		{0x0102030405060708, 0x090a0b0c0d0e0f10, 2928574773 - 1<<31},
	} {
		if got := hash.Mix(x.a, x.b); got != x.want {
			t.Errorf("Mix(%d, %d) = %d, want %d", x.a, x.b, got, x.want)
		}
	}
}

// P4.3: every pair of integers at the bounds of 64 bits, of each length and sign, against the 16 bytes.
func TestMixOfAnyIntegers(t *testing.T) {
	above := 0
	ints := someInts()
	for _, a := range ints {
		for _, b := range ints {
			got, want := hash.Mix(a, b), refMix(a, b)
			if got != want || got < 0 || got > math.MaxInt32 {
				t.Fatalf("Mix(%d, %d) = %d, want %d", a, b, got, want)
			}
			if got > math.MaxInt32/2 {
				above++
			}
		}
	}
	if above == 0 {
		t.Error("no result has bit 30")
	}
}

// P4.4: the remainder for small, large and very large numbers of buckets, and 0 below 1.
func TestBucket(t *testing.T) {
	for _, x := range []struct {
		s       string
		n, want int
	}{
		{"a", 10, 0},
		{"a", 7, 5},
		{"a", 100, 20},
		{"a", 1 << 31, 1678518572},
		{"a", 3826002219, 1},
		{"a", 3826002220, 0},
		{"a", 3826002221, 3826002220},
		{"a", math.MaxInt, 3826002220},
		{"", 100, 61},
		{"", 7, 2},
		{"", 1 << 31, 18652613},
		{"", 1 << 32, 2166136261},
		{"order/r1", 10, 3},
		{"order/r1", 1<<32 - 1, 2154127053},
		{"order/r1", 2, 1},
		{"order/r1", 1, 0},
		{"", 1, 0},
		{"", 0, 0},
		{"order/r1", 0, 0},
		{"order/r1", -1, 0},
		{"order/r1", -10, 0},
		{"order/r1", math.MinInt, 0},
		{"order/r1", math.MinInt + 1, 0},
	} {
		if got := hash.Bucket(x.s, x.n); got != x.want {
			t.Errorf("Bucket(%q, %d) = %d, want %d", x.s, x.n, got, x.want)
		}
	}
}

// P4.4: all kinds of strings among all kinds of numbers of buckets.
func TestBucketOfAnyStrings(t *testing.T) {
	for _, b := range someBytes()[:2000] {
		h := refFnv(string(b))
		for _, n := range someInts() {
			want := 0
			if n >= 1 {
				want = h % n
			}
			if got := hash.Bucket(string(b), n); got != want {
				t.Fatalf("Bucket(%q, %d) = %d, want %d", b, n, got, want)
			}
		}
	}
}

// P4.1 to P4.4: a result does not depend on other calls, also not on those made at the same time.
func TestCallsAreIndependent(t *testing.T) {
	inputs := someBytes()[200:400]
	var all sync.WaitGroup
	for worker := range 4 {
		all.Go(func() {
			for i := range inputs {
				b := inputs[(i+worker*50)%len(inputs)]
				h := refFnv(string(b))
				if hash.Fnv(string(b)) != h || hash.Crc(b) != refCrc(b) || hash.Mix(i, -i) != refMix(i, -i) || hash.Bucket(string(b), 97) != h%97 {
					t.Errorf("a result for %q among other calls differs", b)
				}
			}
		})
	}
	all.Wait()
}
