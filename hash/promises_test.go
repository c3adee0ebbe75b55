package hash_test

import (
	"bytes"
	"math"
	"slices"
	"strings"
	"testing"

	"workflow/hash"
)

// wantDistinct reports two equal numbers among those of the 256 bytes that may stand at one place.
func wantDistinct(t *testing.T, numbers []int, format string, size, place int) {
	t.Helper()
	slices.Sort(numbers)
	if different := len(slices.Compact(numbers)); different != 256 {
		t.Fatalf(format+": %d different numbers for 256 bytes at place %d of %d bytes", different, place, size)
	}
}

// P4.5: one byte that differs, at every place, with each pair of values, gives another checksum.
func TestCrcSeesEachByte(t *testing.T) {
	for _, base := range [][]byte{
		{0},
		{0, 0},
		[]byte("ab"),
		[]byte("abc"),
		[]byte("\xff\x00\x80\x7f"),
		[]byte("order/r1"),
		make([]byte, 40),
		bytes.Repeat([]byte{0xff}, 40),
		mixedBytes(300),
	} {
		for place := range base {
			b := slices.Clone(base)
			sums := []int{}
			for c := range 256 {
				b[place] = byte(c)
				sums = append(sums, hash.Crc(b))
			}
			wantDistinct(t, sums, "Crc", len(b), place)
		}
	}
}

// P4.5: the same for each place of a long input, with one bit that differs, and all of them.
func TestCrcSeesEachByteOfLongInputs(t *testing.T) {
	b := mixedBytes(1500)
	sum := hash.Crc(b)
	for place := range b {
		for _, change := range []byte{1, 0x10, 0x80, 0xff} {
			b[place] ^= change
			if hash.Crc(b) == sum {
				t.Fatalf("Crc does not see %x changed at place %d", change, place)
			}
			b[place] ^= change
		}
	}
	b = mixedBytes(1000000)
	sum = hash.Crc(b)
	for _, place := range []int{0, 1, 65535, 65536, 500000, 999998, 999999} {
		b[place]++
		if hash.Crc(b) == sum {
			t.Fatalf("Crc does not see place %d of a million", place)
		}
		b[place]--
	}
}

// P4.5: strings that differ only in their last byte have different hashes, for each pair of values of it.
func TestFnvSeesTheLastByte(t *testing.T) {
	for _, front := range []string{"", "a", "\x00", "\xff", "ab", "order/r", strings.Repeat("\x80", 33), string(allBytes()), string(mixedBytes(100000))} {
		hashes := []int{}
		for c := range 256 {
			hashes = append(hashes, hash.Fnv(front+string([]byte{byte(c)})))
		}
		wantDistinct(t, hashes, "Fnv", len(front)+1, len(front))
	}
}

// P4.5: one bucket is 0, and n buckets are 0 to n - 1, each of which some string has if n is small.
func TestBucketRange(t *testing.T) {
	strange := someBytes()[:1000]
	for _, n := range []int{1, 2, 3, 16, 97, 1000, 1 << 31, 1<<32 - 1, 1 << 32, math.MaxInt} {
		used := map[int]bool{}
		for _, b := range strange {
			k := hash.Bucket(string(b), n)
			if k < 0 || k >= n {
				t.Fatalf("Bucket(%q, %d) = %d", b, n, k)
			}
			used[k] = true
		}
		if n <= 16 && len(used) != n {
			t.Errorf("1000 strings are in %d of %d buckets", len(used), n)
		}
	}
}

// P4.1 to P4.3: hashes and checksums are numbers of 32 bits, and use the highest one.
func TestRanges(t *testing.T) {
	high := 0
	for _, b := range someBytes()[:2000] {
		for _, n := range []int{hash.Fnv(string(b)), hash.Crc(b)} {
			if n < 0 || n > math.MaxUint32 {
				t.Fatalf("%d for %q", n, b)
			}
			if n > math.MaxInt32 {
				high++
			}
		}
	}
	if high == 0 {
		t.Error("no number has bit 31")
	}
}
