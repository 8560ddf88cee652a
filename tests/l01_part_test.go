package tests

import (
	"math"
	"math/big"
	"testing"

	"loop.example/g00521/impl"
)

const maxEnd = 1000000000
const minReach = -131072
const maxReach = 196608

// outliers are far outside every range of chapter 1.
var outliers = []int64{math.MinInt64, math.MinInt64 + 1, math.MinInt32, math.MaxInt32 * 4, math.MaxInt64 - 1, math.MaxInt64}

// timesBy is n times m by d, down, without the limits of int64 (d above 0, where big's Div goes down).
func timesBy(n, m, d int64) int64 {
	product := new(big.Int).Mul(big.NewInt(n), big.NewInt(m))
	return product.Div(product, big.NewInt(d)).Int64()
}

func wantPart(t *testing.T, n, all, want int64) {
	t.Helper()
	if got := impl.PartOf(n, all); got != want {
		t.Errorf("PartOf(%d, %d) = %d, want %d", n, all, got, want)
	}
}

func wantBetween(t *testing.T, a, b, p, want int64) {
	t.Helper()
	if got := impl.Between(a, b, p); got != want {
		t.Errorf("Between(%d, %d, %d) = %d, want %d", a, b, p, got, want)
	}
}

func wantOther(t *testing.T, p, want int64) {
	t.Helper()
	if got := impl.Other(p); got != want {
		t.Errorf("Other(%d) = %d, want %d", p, got, want)
	}
}

func TestLimitsOfChapter1(t *testing.T) {
	if impl.One != 65536 || impl.MaxTime != 1000000000 {
		t.Fatal(impl.One, impl.MaxTime)
	}
}

func TestPartOkFromZeroToOne(t *testing.T) {
	for p := int64(-3); p <= impl.One+3; p++ {
		if got, want := impl.PartOk(p), p >= 0 && p <= 65536; got != want {
			t.Errorf("PartOk(%d) = %t", p, got)
		}
	}
	for _, p := range outliers {
		if impl.PartOk(p) {
			t.Errorf("PartOk(%d) = true", p)
		}
	}
}

func TestPartOfGoesFromZeroToOne(t *testing.T) {
	for _, all := range []int64{1, 2, 3, 7, 100, 65535, 65536, 65537, 999999999, impl.MaxTime} {
		wantPart(t, 0, all, 0)
		wantPart(t, all, all, impl.One)
		last := int64(0)
		for k := int64(0); k <= 1000; k++ {
			n := all * k / 1000
			got := impl.PartOf(n, all)
			if !impl.PartOk(got) || got < last {
				t.Fatalf("PartOf(%d, %d) = %d behind %d", n, all, got, last)
			}
			last = got
		}
	}
}

func TestPartOfRoundsDown(t *testing.T) {
	wantPart(t, 1, 2, 32768)
	wantPart(t, 1, 3, 21845)
	wantPart(t, 2, 3, 43690)
	wantPart(t, 1, 65537, 0)
	wantPart(t, 65536, 65537, 65535)
	wantPart(t, 1, impl.MaxTime, 0)
	wantPart(t, impl.MaxTime-1, impl.MaxTime, 65535)
	for all := int64(1); all <= 150; all++ {
		for n := int64(0); n <= all; n++ {
			wantPart(t, n, all, timesBy(impl.One, n, all))
		}
	}
	for n := int64(0); n <= impl.MaxTime; n += 7654321 {
		wantPart(t, n, impl.MaxTime, timesBy(impl.One, n, impl.MaxTime))
	}
}

func TestPartOfOutOfRange(t *testing.T) {
	wantPart(t, 0, 1, 0)
	wantPart(t, 0, 0, -1)
	wantPart(t, 0, -1, -1)
	wantPart(t, -1, -1, -1)
	wantPart(t, -2, -3, -1)
	wantPart(t, impl.MaxTime, impl.MaxTime, impl.One)
	wantPart(t, 0, impl.MaxTime+1, -1)
	wantPart(t, impl.MaxTime, impl.MaxTime+1, -1)
	wantPart(t, impl.MaxTime+1, impl.MaxTime+1, -1)
	for _, all := range []int64{1, 2, 1000, impl.MaxTime} {
		wantPart(t, -1, all, -1)
		wantPart(t, all+1, all, -1)
	}
	for _, far := range outliers {
		wantPart(t, far, 10, -1)
		wantPart(t, 0, far, -1)
		wantPart(t, 1, far, -1)
		wantPart(t, far, far, -1)
	}
}

func TestBetweenEnds(t *testing.T) {
	ends := []int64{-maxEnd, -maxEnd + 1, -65537, -10, -1, 0, 1, 10, 65537, maxEnd - 1, maxEnd}
	for _, a := range ends {
		for _, b := range ends {
			wantBetween(t, a, b, 0, a)
			wantBetween(t, a, b, impl.One, b)
		}
	}
}

func TestBetweenDividesDown(t *testing.T) {
	wantBetween(t, 10, 20, 32768, 15)
	wantBetween(t, 10, 20, 1, 10)
	wantBetween(t, 10, 20, 65535, 19)
	wantBetween(t, 20, 10, 1, 19)
	wantBetween(t, 20, 10, 32768, 15)
	wantBetween(t, 20, 10, 65535, 10)
	wantBetween(t, 0, -1, 1, -1)
	wantBetween(t, 0, 1, -1, -1)
	wantBetween(t, 0, -1, -1, 0)
	wantBetween(t, -10, -20, 32768, -15)
	wantBetween(t, -20, -11, 32768, -16)
	wantBetween(t, -11, -20, 32768, -16)
}

func TestBetweenPastTheEnds(t *testing.T) {
	wantBetween(t, 0, 10, -65536, -10)
	wantBetween(t, 0, 10, minReach, -20)
	wantBetween(t, 0, 10, maxReach, 30)
	wantBetween(t, 10, 0, minReach, 30)
	wantBetween(t, 10, 0, maxReach, -20)
	wantBetween(t, -maxEnd, maxEnd, maxReach, 5*maxEnd)
	wantBetween(t, -maxEnd, maxEnd, minReach, -5*maxEnd)
	wantBetween(t, maxEnd, -maxEnd, maxReach, -5*maxEnd)
	wantBetween(t, maxEnd, -maxEnd, minReach, 5*maxEnd)
}

func TestBetweenOfTwoAlike(t *testing.T) {
	for _, a := range []int64{-maxEnd, -7, 0, 5, maxEnd} {
		for _, p := range []int64{minReach, -1, 0, 7, 65535, 65536, 65537, maxReach} {
			wantBetween(t, a, a, p, a)
		}
	}
}

func TestBetweenIsAsReckonedLarge(t *testing.T) {
	ends := []int64{-maxEnd, -123456789, -65536, -3, -1, 0, 2, 5, 65535, 987654321, maxEnd}
	for _, a := range ends {
		for _, b := range ends {
			for p := int64(minReach); p <= maxReach; p += 911 {
				wantBetween(t, a, b, p, a+timesBy(b-a, p, impl.One))
			}
		}
	}
}

func TestBetweenOutOfRange(t *testing.T) {
	for _, p := range []int64{minReach, 0, 32768, impl.One, maxReach} {
		wantBetween(t, maxEnd+1, 5, p, 0)
		wantBetween(t, -maxEnd-1, 5, p, 0)
		wantBetween(t, 5, maxEnd+1, p, 0)
		wantBetween(t, 5, -maxEnd-1, p, 0)
		for _, far := range outliers {
			wantBetween(t, far, 5, p, 0)
			wantBetween(t, 5, far, p, 0)
			wantBetween(t, far, far, p, 0)
		}
	}
	wantBetween(t, 5, 5, minReach-1, 0)
	wantBetween(t, 5, 9, minReach-1, 0)
	wantBetween(t, 5, 5, maxReach+1, 0)
	wantBetween(t, 5, 9, maxReach+1, 0)
	for _, far := range outliers {
		wantBetween(t, 5, 9, far, 0)
		wantBetween(t, 5, 5, far, 0)
		wantBetween(t, far, far, far, 0)
	}
}

func TestOtherOfEachPart(t *testing.T) {
	wantOther(t, 0, impl.One)
	wantOther(t, impl.One, 0)
	wantOther(t, 16384, 49152)
	for p := int64(0); p <= impl.One; p++ {
		wantOther(t, p, impl.One-p)
	}
}

func TestOtherOfNoPart(t *testing.T) {
	wantOther(t, -1, -1)
	wantOther(t, impl.One+1, -1)
	wantOther(t, impl.One+2, -1)
	for _, far := range outliers {
		wantOther(t, far, -1)
	}
}

// TestChapter1AnswersAlways: an answer at every argument, and the same one when asked again.
func TestChapter1AnswersAlways(t *testing.T) {
	edges := append([]int64{-maxEnd - 1, -maxEnd, minReach - 1, minReach, -1, 0, 1, impl.One, impl.One + 1, maxReach, maxReach + 1, maxEnd, maxEnd + 1}, outliers...)
	for _, x := range edges {
		if impl.PartOk(x) != impl.PartOk(x) || impl.Other(x) != impl.Other(x) {
			t.Errorf("%d is answered in two ways", x)
		}
		for _, y := range edges {
			if got := impl.PartOf(x, y); got != impl.PartOf(x, y) || got != -1 && !impl.PartOk(got) {
				t.Errorf("PartOf(%d, %d) = %d", x, y, got)
			}
			for _, z := range edges {
				if got := impl.Between(x, y, z); got != impl.Between(x, y, z) || got < -5*maxEnd || got > 5*maxEnd {
					t.Errorf("Between(%d, %d, %d) = %d", x, y, z, got)
				}
			}
		}
	}
}
