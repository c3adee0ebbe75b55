package draw_test

import (
	"encoding/binary"
	"hash/fnv"
	"math"
	"math/big"
	"slices"
	"strings"
	"sync"
	"testing"

	"workflow/api"
	"workflow/draw"
	"workflow/hash"
)

// refFnv is the FNV-1a hash of Go's library, which shares nothing with the project.
func refFnv(s string) int {
	h := fnv.New32a()
	h.Write([]byte(s))
	return int(h.Sum32())
}

// refDraw is Draw by P5.1 and P4.3, with the 16 bytes written out.
func refDraw(seed, k int) int {
	joined := binary.BigEndian.AppendUint64(nil, uint64(seed))
	joined = binary.BigEndian.AppendUint64(joined, uint64(k))
	return refFnv(string(joined)) % (1 << 31)
}

// refBelow is Below by P5.2.
func refBelow(seed, k, n int) int {
	if n < 1 {
		return 0
	}
	return refDraw(seed, k) % n
}

// bigRatio returns a * b / c rounded down, in integers without a bound.
func bigRatio(a, b, c int) int {
	product := new(big.Int).Mul(big.NewInt(int64(a)), big.NewInt(int64(b)))
	return int(product.Div(product, big.NewInt(int64(c))).Int64())
}

// inRange tells whether Jitter changes a base by a percentage.
func inRange(base, percent int) bool {
	return 0 <= base && base <= api.MaxTime && 0 <= percent && percent <= 100
}

// refJitter is Jitter by P5.3, in integers without a bound.
func refJitter(seed, k, base, percent int) int {
	if !inRange(base, percent) {
		return base
	}
	return bigRatio(base, 100-percent+refBelow(seed, k, 2*percent+1), 100)
}

// someInts returns the bounds of 64 bits, the numbers around each power of two and its negative, and ordinary ones.
func someInts() []int {
	ints := []int{math.MaxInt, math.MinInt, math.MaxInt - 1, math.MinInt + 1, 5, -2, 10, 99, 100, 101, 1000, 2154127053, 1234567890123456789, -1234567890123456789, 0x0102030405060708}
	for shift := range 63 {
		for d := -1; d <= 1; d++ {
			ints = append(ints, 1<<shift+d, -1<<shift+d)
		}
	}
	slices.Sort(ints)
	return slices.Compact(ints)
}

// fewInts returns seeds and numbers of each size and sign, for tests that combine them with others.
func fewInts() []int {
	return []int{0, 1, 2, 7, -1, -2, 1 << 31, 1 << 40, -1 << 40, 2154127053, math.MaxInt, math.MinInt}
}

// P5.1: numbers written out, for seeds and k of either sign and at the bounds of 64 bits.
func TestDraw(t *testing.T) {
	for _, x := range []struct{ seed, k, want int }{
		{0, 0, 1768495365},
		{0, 1, 1751717746},
		{1, 0, 1210079250},
		{7, 3, 57399065},
		{3, 7, 76469401},
		{-1, -1, 906459637},
		{-7, 3, 131093726},
		{7, -3, 822828158},
		{2154127053, 1, 1425122308},
		{2154127053, 2, 1475455165},
		{0, math.MaxInt, 1898601597},
		{0, math.MinInt, 437823877},
		{math.MaxInt, 0, 1703157885},
		{math.MinInt, 0, 1000863877},
		{math.MaxInt, math.MaxInt, 475476213},
		{math.MinInt, math.MinInt, 184051717},
		{math.MaxInt, math.MinInt, 886345725},
		{math.MinInt, math.MaxInt, 259721469},
	} {
		if got := draw.Draw(x.seed, x.k); got != x.want {
			t.Errorf("Draw(%d, %d) = %d, want %d", x.seed, x.k, got, x.want)
		}
	}
}

// P5.1: every pair of integers of each length and sign, against hash.Mix, the 16 bytes and the range.
func TestDrawOfAnyIntegers(t *testing.T) {
	above := 0
	ints := someInts()
	for _, seed := range ints {
		for _, k := range ints {
			got := draw.Draw(seed, k)
			if got != hash.Mix(seed, k) || got != refDraw(seed, k) || got < 0 || got > math.MaxInt32 {
				t.Fatalf("Draw(%d, %d) = %d, want %d", seed, k, got, refDraw(seed, k))
			}
			if got > math.MaxInt32/2 {
				above++
			}
		}
	}
	if above == 0 {
		t.Error("no number has bit 30")
	}
}

// P5.2: remainders written out, for n that is small, about the drawn number, large and less than 1.
func TestBelow(t *testing.T) {
	for _, x := range []struct{ seed, k, n, want int }{
		{7, 3, 1, 0},
		{7, 3, 2, 1},
		{7, 3, 10, 5},
		{7, 3, 100, 65},
		{7, 3, 57399064, 1},
		{7, 3, 57399065, 0},
		{7, 3, 57399066, 57399065},
		{7, 3, 1<<31 - 1, 57399065},
		{7, 3, 1 << 31, 57399065},
		{7, 3, 1 << 32, 57399065},
		{7, 3, math.MaxInt, 57399065},
		{0, 0, 10, 5},
		{0, 0, 1<<31 - 1, 1768495365},
		{0, 0, 1 << 32, 1768495365},
		{math.MinInt, math.MaxInt, 10, 9},
		{math.MinInt, math.MaxInt, 100, 69},
		{math.MinInt, math.MaxInt, math.MaxInt, 259721469},
		{7, 3, 0, 0},
		{7, 3, -1, 0},
		{7, 3, -10, 0},
		{7, 3, math.MinInt + 1, 0},
		{7, 3, math.MinInt, 0},
	} {
		if got := draw.Below(x.seed, x.k, x.n); got != x.want {
			t.Errorf("Below(%d, %d, %d) = %d, want %d", x.seed, x.k, x.n, got, x.want)
		}
	}
}

// P5.2: n of each length and sign, with seeds and k at the bounds.
func TestBelowOfAnyIntegers(t *testing.T) {
	for _, seed := range fewInts() {
		for _, k := range fewInts() {
			for _, n := range someInts() {
				if got, want := draw.Below(seed, k, n), refBelow(seed, k, n); got != want {
					t.Fatalf("Below(%d, %d, %d) = %d, want %d", seed, k, n, got, want)
				}
			}
		}
	}
}

// P5.3: results written out, among them those that are rounded down, and those of the largest base.
func TestJitter(t *testing.T) {
	for _, x := range []struct{ seed, k, base, percent, want int }{
		{7, 3, 1000, 10, 1070},
		{7, 4, 1000, 10, 910},
		{2154127053, 1, 100, 10, 91},
		{2154127053, 2, 200, 10, 212},
		{0, 0, 50, 100, 40},
		{0, 1, 999, 50, 559},
		{-1, -1, 7, 33, 6},
		{1, 2, 1, 1, 1},
		{1, 2, 0, 100, 0},
		{math.MaxInt, math.MinInt, api.MaxTime, 100, 494780232499},
		{math.MinInt, math.MaxInt, api.MaxTime, 99, 32985348833},
		{math.MinInt, math.MaxInt, api.MaxTime - 1, 1, 1088516511497},
		{5, 5, api.MaxTime, 0, api.MaxTime},
	} {
		if got := draw.Jitter(x.seed, x.k, x.base, x.percent); got != x.want {
			t.Errorf("Jitter(%d, %d, %d, %d) = %d, want %d", x.seed, x.k, x.base, x.percent, got, x.want)
		}
	}
}

// P5.3: a base or a percentage out of range leaves the base as it is; those at the limits do not.
func TestJitterOutOfRange(t *testing.T) {
	for _, x := range []struct{ base, percent int }{
		{-5, 10},
		{-1, 10},
		{-1, 100},
		{-1000, 0},
		{math.MinInt, 10},
		{math.MinInt, math.MinInt},
		{api.MaxTime + 1, 10},
		{api.MaxTime + 1, 100},
		{1 << 62, 50},
		{math.MaxInt, 10},
		{math.MaxInt, math.MaxInt},
		{50, 101},
		{50, 200},
		{1000, math.MaxInt},
		{50, -1},
		{1000, -100},
		{1000, math.MinInt},
		{0, -1},
		{api.MaxTime, 101},
		{api.MaxTime, -1},
	} {
		for k := range 300 {
			if got := draw.Jitter(7, k, x.base, x.percent); got != x.base {
				t.Fatalf("Jitter(7, %d, %d, %d) = %d", k, x.base, x.percent, got)
			}
		}
	}
	for _, x := range []struct{ base, percent int }{{api.MaxTime, 1}, {api.MaxTime, 100}, {1000, 1}, {1000, 99}, {1000, 100}, {1, 100}} {
		changed := 0
		for k := range 300 {
			if draw.Jitter(7, k, x.base, x.percent) != x.base {
				changed++
			}
		}
		if changed == 0 {
			t.Errorf("Jitter never changes %d by %d percent", x.base, x.percent)
		}
	}
}

// P5.3: bases of each length and sign and percentages around both limits, against integers without a bound.
func TestJitterOfAnyIntegers(t *testing.T) {
	percents := []int{0, 1, 2, 3, 10, 33, 49, 50, 51, 67, 98, 99, 100, 101, 102, 200, -1, -2, -50, -100, 1 << 40, math.MaxInt, math.MinInt}
	bases := append(someInts(), 3, 49, 50, 51, 199, 12345, 999999, api.MaxTime-2)
	for _, seed := range fewInts() {
		for _, k := range fewInts() {
			for _, base := range bases {
				for _, percent := range percents {
					if got, want := draw.Jitter(seed, k, base, percent), refJitter(seed, k, base, percent); got != want {
						t.Fatalf("Jitter(%d, %d, %d, %d) = %d, want %d", seed, k, base, percent, got, want)
					}
				}
			}
		}
	}
}

// P5.4: hashes written out, the chapter's example among them, for empty names, names with a slash, and any bytes.
func TestSeed(t *testing.T) {
	for _, x := range []struct {
		workflow, run string
		want          int
	}{
		{"order", "r1", 2154127053},
		{"w", "r1", 4205795534},
		{"", "", 705468254},
		{"", "r1", 646792751},
		{"order", "", 106844584},
		{"a/b", "c", 1199438699},
		{"a", "b/c", 1199438699},
		{"/", "", 2731697891},
		{"", "/", 2731697891},
		{"\xff", "\x00", 4120687561},
		{"gr\xc3\xbcn", "r12", 3732891789},
	} {
		if got := draw.Seed(x.workflow, x.run); got != x.want {
			t.Errorf("Seed(%q, %q) = %d, want %d", x.workflow, x.run, got, x.want)
		}
	}
	if draw.Seed("", "") != hash.Fnv("/") {
		t.Error("Seed of two empty names is not the hash of a slash")
	}
}

// P5.4: all pairs of some names, in both orders, and with each byte in them.
func TestSeedOfAnyNames(t *testing.T) {
	names := []string{"", "/", "//", "a", "b", "a/", "/a", "a/b", "r1", "r10", "order", "Order", " ", "\n", "a\x00b", "\x00", strings.Repeat("n", api.MaxName), strings.Repeat("\x80/", 5000)}
	for c := range 256 {
		names = append(names, string([]byte{byte(c), 'x'}))
	}
	for _, workflow := range names {
		for _, run := range names {
			if got, want := draw.Seed(workflow, run), refFnv(strings.Join([]string{workflow, run}, "/")); got != want {
				t.Fatalf("Seed(%.80q, %.80q) = %d, want %d", workflow, run, got, want)
			}
		}
	}
}

// P5.1 to P5.4: a result does not depend on other calls, also not on those made at the same time.
func TestCallsAreIndependent(t *testing.T) {
	var all sync.WaitGroup
	for worker := range 4 {
		all.Go(func() {
			for i := range 2000 {
				k := (i + worker*500) % 2000
				run := strings.Repeat("r", k%50)
				if draw.Draw(k, -k) != refDraw(k, -k) || draw.Below(7, k, 97) != refBelow(7, k, 97) || draw.Jitter(7, k, 1000, 10) != refJitter(7, k, 1000, 10) || draw.Seed("order", run) != refFnv("order/"+run) {
					t.Errorf("a result for %d among other calls differs", k)
				}
			}
		})
	}
	all.Wait()
}
