package draw_test

import (
	"math"
	"testing"

	"workflow/api"
	"workflow/draw"
)

// P5.5: numbers below n are from 0 to n - 1, and each of them is drawn if n is small.
func TestBelowRange(t *testing.T) {
	for _, n := range []int{1, 2, 3, 7, 16, 100, 201, 1000, 1<<31 - 1, 1 << 31, 1 << 32, math.MaxInt} {
		drawn := map[int]bool{}
		for seed := range 100 {
			for k := range 50 {
				got := draw.Below(seed-50, k-25, n)
				if got < 0 || got >= n {
					t.Fatalf("Below(%d, %d, %d) = %d", seed-50, k-25, n, got)
				}
				drawn[got] = true
			}
		}
		if n <= 201 && len(drawn) != n {
			t.Errorf("5000 draws below %d are %d different numbers", n, len(drawn))
		}
	}
}

// bounds returns the least and the greatest Jitter over many seeds and numbers k.
func bounds(base, percent int) (least, greatest int) {
	least, greatest = math.MaxInt, math.MinInt
	for seed := range 100 {
		for k := range 50 {
			got := draw.Jitter(seed*7919, k, base, percent)
			least, greatest = min(least, got), max(greatest, got)
		}
	}
	return least, greatest
}

// P5.5: over many seeds, Jitter reaches both bounds, rounded down, and leaves neither, for bases from 0 to MaxTime and percentages from 0 to 100.
func TestJitterBounds(t *testing.T) {
	for _, base := range []int{0, 1, 2, 3, 5, 7, 49, 50, 51, 99, 100, 101, 199, 1000, 12345, 1<<31 + 7, 1<<39 + 1, api.MaxTime - 1, api.MaxTime} {
		for _, percent := range []int{0, 1, 2, 9, 10, 33, 50, 67, 98, 99, 100} {
			least, greatest := bounds(base, percent)
			low, high := bigRatio(base, 100-percent, 100), bigRatio(base, 100+percent, 100)
			if least != low || greatest != high {
				t.Errorf("Jitter of %d by %d percent is from %d to %d, want %d to %d", base, percent, least, greatest, low, high)
			}
		}
	}
}

// P5.5: both bounds hold for every percentage, with seeds and numbers k at the bounds of 64 bits.
func TestJitterBoundsOfAnySeeds(t *testing.T) {
	ints := someInts()
	for percent := range 101 {
		for i, seed := range ints {
			k := ints[(i*31+percent)%len(ints)]
			for _, base := range []int{0, 1, 99, 1001, api.MaxTime - 1, api.MaxTime} {
				got := draw.Jitter(seed, k, base, percent)
				if got < bigRatio(base, 100-percent, 100) || got > bigRatio(base, 100+percent, 100) {
					t.Fatalf("Jitter(%d, %d, %d, %d) = %d", seed, k, base, percent, got)
				}
			}
		}
	}
}

// Example 1: one number below 1, no change by 0 percent, and none of a negative base, for all seeds and k.
func TestExampleForAllSeeds(t *testing.T) {
	ints := someInts()
	for _, seed := range ints {
		for _, k := range ints {
			if draw.Below(seed, k, 1) != 0 || draw.Jitter(seed, k, 50, 0) != 50 || draw.Jitter(seed, k, -5, 10) != -5 {
				t.Fatalf("seed %d, k %d: %d, %d, %d", seed, k, draw.Below(seed, k, 1), draw.Jitter(seed, k, 50, 0), draw.Jitter(seed, k, -5, 10))
			}
		}
	}
}
