package tests

import (
	"math/big"
	"testing"

	"loop.example/g00521/impl"
)

const wholeWay = 107374182400
const maxStop = 1024

// calm are curves whose Y1 and Y2 are from 0 to 100: these go on and on.
var calm = []impl.Curve{
	{},
	{X1: 25, Y1: 10, X2: 25, Y2: 100},
	{X1: 42, Y1: 0, X2: 100, Y2: 100},
	{X1: 0, Y1: 0, X2: 58, Y2: 100},
	{X1: 100, Y1: 0, X2: 0, Y2: 100},
	{X1: 100, Y1: 100, X2: 0, Y2: 0},
	{X1: 0, Y1: 100, X2: 100, Y2: 0},
	{X1: 100, Y1: 100, X2: 100, Y2: 100},
	{X1: 33, Y1: 33, X2: 67, Y2: 67},
	{X1: 99, Y1: 1, X2: 1, Y2: 99},
}

// swinging are curves that go below 0, above One or back on their way.
var swinging = []impl.Curve{
	{X1: 0, Y1: -100, X2: 100, Y2: 200},
	{X1: 100, Y1: 200, X2: 0, Y2: -100},
	{X1: 0, Y1: -100, X2: 0, Y2: -100},
	{X1: 100, Y1: 200, X2: 100, Y2: 200},
	{X1: 50, Y1: -100, X2: 50, Y2: -100},
	{X1: 50, Y1: 200, X2: 50, Y2: 200},
	{X1: 36, Y1: 0, X2: 66, Y2: -56},
	{X1: 34, Y1: 156, X2: 64, Y2: 100},
	{X1: 7, Y1: -1, X2: 93, Y2: 101},
}

// notCurves pass one limit by one, or are far out in one place, or in all.
func notCurves() []impl.Curve {
	list := []impl.Curve{{X1: -1}, {X1: 101}, {X2: -1}, {X2: 101}, {Y1: -101}, {Y1: 201}, {Y2: -101}, {Y2: 201},
		{X1: 50, Y1: 50, X2: 50, Y2: 201}, {X1: 101, Y1: -101, X2: 101, Y2: -101}}
	for _, far := range outliers {
		list = append(list, impl.Curve{X1: far}, impl.Curve{Y1: far}, impl.Curve{X2: far}, impl.Curve{Y2: far},
			impl.Curve{X1: far, Y1: far, X2: far, Y2: far})
	}
	return list
}

func allCurves() []impl.Curve {
	return append(append([]impl.Curve{}, calm...), swinging...)
}

// side is AlongX or AlongY reckoned without the limits of int64.
func side(first, second, t int64) *big.Int {
	sum := new(big.Int)
	r := maxStop - t
	for _, term := range [][5]int64{{3, r, r, t, first}, {3, r, t, t, second}, {100, t, t, t, 1}} {
		product := big.NewInt(1)
		for _, factor := range term {
			product.Mul(product, big.NewInt(factor))
		}
		sum.Add(sum, product)
	}
	return sum
}

// reached: One times AlongX at t is at least wholeWay times p.
func reached(c impl.Curve, t, p int64) bool {
	there := new(big.Int).Mul(side(c.X1, c.X2, t), big.NewInt(impl.One))
	wanted := new(big.Int).Mul(big.NewInt(wholeWay), big.NewInt(p))
	return there.Cmp(wanted) >= 0
}

func heightAt(c impl.Curve, t int64) int64 {
	there := new(big.Int).Mul(side(c.Y1, c.Y2, t), big.NewInt(impl.One))
	return there.Div(there, big.NewInt(wholeWay)).Int64()
}

func wantCurveOk(t *testing.T, c impl.Curve, want bool) {
	t.Helper()
	if got := impl.CurveOk(c); got != want {
		t.Errorf("CurveOk(%v) = %t", c, got)
	}
}

func wantAlong(t *testing.T, c impl.Curve, at, wantX, wantY int64) {
	t.Helper()
	if gotX, gotY := impl.AlongX(c, at), impl.AlongY(c, at); gotX != wantX || gotY != wantY {
		t.Errorf("AlongX, AlongY(%v, %d) = %d, %d, want %d, %d", c, at, gotX, gotY, wantX, wantY)
	}
}

func wantCurve(t *testing.T, c impl.Curve, p, wantStop, wantAt int64) {
	t.Helper()
	if gotStop, gotAt := impl.StopOf(c, p), impl.CurveAt(c, p); gotStop != wantStop || gotAt != wantAt {
		t.Errorf("StopOf, CurveAt(%v, %d) = %d, %d, want %d, %d", c, p, gotStop, gotAt, wantStop, wantAt)
	}
}

func TestCurveOkAtItsLimits(t *testing.T) {
	for _, x := range []int64{0, 1, 50, 99, 100} {
		wantCurveOk(t, impl.Curve{X1: x}, true)
		wantCurveOk(t, impl.Curve{X2: x}, true)
	}
	for _, y := range []int64{-100, -99, 0, 101, 199, 200} {
		wantCurveOk(t, impl.Curve{Y1: y}, true)
		wantCurveOk(t, impl.Curve{Y2: y}, true)
	}
	wantCurveOk(t, impl.Curve{X1: 100, Y1: -100, X2: 100, Y2: -100}, true)
	wantCurveOk(t, impl.Curve{X1: 100, Y1: 200, X2: 100, Y2: 200}, true)
	for _, c := range allCurves() {
		wantCurveOk(t, c, true)
	}
	for _, c := range notCurves() {
		wantCurveOk(t, c, false)
	}
}

func TestAlongIsTheSum(t *testing.T) {
	wantAlong(t, impl.Curve{X1: 25, Y1: 10, X2: 25, Y2: 100}, 512, 33554432000, 57713623040)
	wantAlong(t, impl.Curve{Y1: -100, Y2: -100}, 1, 100, -314265500)
	wantAlong(t, impl.Curve{X1: 0, Y1: -100, X2: 100, Y2: 200}, 341, 27791159000, 3895311200)
	for _, c := range allCurves() {
		wantAlong(t, c, 0, 0, 0)
		wantAlong(t, c, maxStop, wholeWay, wholeWay)
		for at := int64(0); at <= maxStop; at++ {
			wantAlong(t, c, at, side(c.X1, c.X2, at).Int64(), side(c.Y1, c.Y2, at).Int64())
		}
	}
}

func TestAlongOutOfRange(t *testing.T) {
	for _, c := range allCurves() {
		wantAlong(t, c, -1, -1, 0)
		wantAlong(t, c, maxStop+1, -1, 0)
		for _, far := range outliers {
			wantAlong(t, c, far, -1, 0)
		}
	}
	for _, c := range notCurves() {
		for _, at := range append([]int64{-1, 0, 1, 512, maxStop, maxStop + 1}, outliers...) {
			wantAlong(t, c, at, -1, 0)
		}
	}
}

func TestCurveGoesFromZeroToOne(t *testing.T) {
	for _, c := range allCurves() {
		wantCurve(t, c, 0, 0, 0)
		wantCurve(t, c, impl.One, maxStop, impl.One)
	}
}

func TestCurveOfEveryCornerGoesFromZeroToOne(t *testing.T) {
	for x1 := int64(0); x1 <= 100; x1 += 20 {
		for x2 := int64(0); x2 <= 100; x2 += 20 {
			for y1 := int64(-100); y1 <= 200; y1 += 50 {
				for y2 := int64(-100); y2 <= 200; y2 += 50 {
					c := impl.Curve{X1: x1, Y1: y1, X2: x2, Y2: y2}
					wantCurve(t, c, 0, 0, 0)
					wantCurve(t, c, impl.One, maxStop, impl.One)
				}
			}
		}
	}
}

func TestCurveOnItsWay(t *testing.T) {
	soft := impl.Curve{X1: 25, Y1: 10, X2: 25, Y2: 100}
	wantCurve(t, soft, 1, 1, 19)
	wantCurve(t, soft, 16384, 420, 26836)
	wantCurve(t, soft, 32768, 717, 52633)
	wantCurve(t, soft, 65535, 1024, 65536)
	wantCurve(t, impl.Curve{X1: 42, X2: 100, Y2: 100}, 65535, 1021, 65534)
	steep := impl.Curve{X1: 100, Y1: 0, X2: 0, Y2: 100}
	wantCurve(t, steep, 32767, 496, 31232)
	wantCurve(t, steep, 32768, 512, 32768)
	wantCurve(t, steep, 32769, 528, 34303)
	wantCurve(t, impl.Curve{}, 1, 26, 1)
}

func TestCurveAtDividesDown(t *testing.T) {
	wantCurve(t, impl.Curve{Y1: -100, X2: 100, Y2: 200}, 1, 3, -570)
	wantCurve(t, impl.Curve{Y1: -100, X2: 100, Y2: 200}, 100, 24, -4183)
	wantCurve(t, impl.Curve{Y1: -100, Y2: -100}, 16384, 646, -29332)
	wantCurve(t, impl.Curve{X1: 50, Y1: -100, X2: 50, Y2: -100}, 32768, 512, -40960)
	wantCurve(t, impl.Curve{X1: 50, Y1: 200, X2: 50, Y2: 200}, 32768, 512, 106496)
	for _, c := range allCurves() {
		for p := int64(0); p <= impl.One; p += 37 {
			wantCurve(t, c, p, impl.StopOf(c, p), heightAt(c, impl.StopOf(c, p)))
		}
	}
}

func TestStopOfIsTheLeast(t *testing.T) {
	for _, c := range allCurves() {
		least := int64(0)
		for p := int64(0); p <= impl.One; p++ {
			// What serves for p serves for all below it, so that the least one never goes back.
			for !reached(c, least, p) {
				least++
			}
			if got := impl.StopOf(c, p); got != least {
				t.Fatalf("StopOf(%v, %d) = %d, want %d", c, p, got, least)
			}
		}
	}
}

func TestCurvesGoOnAndOn(t *testing.T) {
	for _, c := range calm {
		lastStop, lastAt := int64(0), int64(0)
		for p := int64(0); p <= impl.One; p++ {
			stop, at := impl.StopOf(c, p), impl.CurveAt(c, p)
			if stop < lastStop || stop > maxStop || at < lastAt || !impl.PartOk(at) {
				t.Fatalf("%v at %d: %d, %d behind %d, %d", c, p, stop, at, lastStop, lastAt)
			}
			lastStop, lastAt = stop, at
		}
	}
}

func TestSwingingCurves(t *testing.T) {
	for _, c := range swinging {
		lastStop, out := int64(0), false
		for p := int64(0); p <= impl.One; p++ {
			stop, at := impl.StopOf(c, p), impl.CurveAt(c, p)
			if stop < lastStop || at < minReach || at > maxReach {
				t.Fatalf("%v at %d: %d, %d", c, p, stop, at)
			}
			lastStop, out = stop, out || !impl.PartOk(at) || at < impl.CurveAt(c, max(p-1, 0))
		}
		if !out {
			t.Errorf("%v neither swings over nor goes back", c)
		}
	}
}

func TestStopOfAndCurveAtOutOfRange(t *testing.T) {
	for _, c := range allCurves() {
		wantCurve(t, c, -1, -1, 0)
		wantCurve(t, c, impl.One+1, -1, 0)
		for _, far := range outliers {
			wantCurve(t, c, far, -1, 0)
		}
	}
	for _, c := range notCurves() {
		for _, p := range append([]int64{-1, 0, 1, 32768, impl.One, impl.One + 1}, outliers...) {
			wantCurve(t, c, p, -1, 0)
		}
	}
}
