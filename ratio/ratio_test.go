package ratio

import (
	"math"
	"math/big"
	"slices"
	"testing"
)

const (
	top   = math.MaxInt
	low   = math.MinInt
	tiny  = math.SmallestNonzeroFloat64
	great = math.MaxFloat64
)

var (
	nan   = math.NaN()
	inf   = math.Inf(1)
	under = math.Inf(-1)
	minus = math.Copysign(0, -1)
)

// nans are NaNs of unlike bits, signs and kinds: all of them are one.
func nans() []float64 {
	return []float64{nan, math.Float64frombits(0x7ff0000000000001), math.Float64frombits(0x7fffffffffffffff), math.Float64frombits(0xfff8000000000000), math.Float64frombits(0xffffffffffffffff)}
}

// rising are floats, each ahead of the next one.
func rising() []float64 {
	return []float64{
		under, -great, -1e300, -1 << 53, -5, -1 - 1e-9, -1, -0.5, -1e-300, -2 * tiny, -tiny, minus,
		0, tiny, 2 * tiny, 1e-310, 0x1p-1022, 1e-300, 0.1, 0.25, 1.0 / 3, 0.5, 0.7, math.Nextafter(1, 0),
		1, math.Nextafter(1, 2), 1.5, 2, 7, 1 << 31, 1 << 53, 1e300, great, inf, nan,
	}
}

// all are rising's floats, and NaN in all its shapes.
func all() []float64 {
	return append(rising(), nans()...)
}

// same holds the bits of two floats against each other, but of NaN.
func same(a, b float64) bool {
	if math.IsNaN(a) || math.IsNaN(b) {
		return math.IsNaN(a) && math.IsNaN(b)
	}
	return math.Float64bits(a) == math.Float64bits(b)
}

func TestLessAndSameGoByTheOrder(t *testing.T) { // P2.1
	l := rising()
	for i, a := range l {
		for k, b := range l {
			if got := Less(a, b); got != (i < k) {
				t.Errorf("Less(%v, %v): %v", a, b, got)
			}
			if got := Same(a, b); got != (i == k) {
				t.Errorf("Same(%v, %v): %v", a, b, got)
			}
		}
	}
}

func TestThereIsOneNaN(t *testing.T) { // P2.1
	for _, a := range nans() {
		for _, b := range nans() {
			if Less(a, b) || !Same(a, b) {
				t.Errorf("NaN of %x and of %x", math.Float64bits(a), math.Float64bits(b))
			}
		}
		for _, f := range rising() {
			if math.IsNaN(f) {
				continue
			}
			if !Less(f, a) || Less(a, f) || Same(a, f) || Same(f, a) {
				t.Errorf("%v and NaN of %x", f, math.Float64bits(a))
			}
		}
	}
}

func TestFix(t *testing.T) { // P2.2
	for _, x := range [][5]float64{
		{0.5, 0, 1, 9, 0.5}, {0, 0, 1, 9, 0}, {1, 0, 1, 9, 1}, {-3, 0, 1, 9, 0}, {7, 0, 1, 9, 1}, {-3, -5, -2, 9, -3},
		{4, 4, 4, 9, 4}, {3, 4, 4, 9, 4}, {5, 4, 4, 9, 4},
		{inf, 0, 1, 9, 1}, {under, 0, 1, 9, 0}, {inf, under, inf, 9, inf}, {under, under, inf, 9, under},
		// NaN is none, whatever the bounds are, and whatever none is
		{nan, 0, 1, 9, 9}, {nan, 0, 1, -0.25, -0.25}, {nan, 0, 1, nan, nan}, {nan, 0, 1, inf, inf}, {nan, nan, nan, 9, 9}, {nan, 3, 1, 9, 9}, {nan, 0, 1, minus, minus},
		// -0 is ahead of +0
		{minus, 0, 1, 9, 0}, {0, minus, 1, 9, 0}, {minus, minus, 1, 9, minus}, {0, -1, minus, 9, minus}, {minus, -1, 0, 9, minus}, {0, minus, minus, 9, minus}, {minus, 0, 0, 9, 0},
		// lo behind hi: ahead of lo it is lo, else behind hi it is hi
		{2, 3, 1, 9, 3}, {0, 3, 1, 9, 3}, {3, 3, 1, 9, 1}, {4, 3, 1, 9, 1}, {inf, inf, under, 9, under}, {5, inf, under, 9, inf}, {minus, 0, minus, 9, 0}, {0, 0, minus, 9, minus},
		// bounds that are NaN stand last
		{5, nan, 1, 9, nan}, {inf, nan, 1, 9, nan}, {5, 0, nan, 9, 5}, {inf, 0, nan, 9, inf}, {-5, 0, nan, 9, 0},
	} {
		if f := Fix(x[0], x[1], x[2], x[3]); !same(f, x[4]) {
			t.Errorf("Fix(%v, %v, %v, %v): %v, not %v", x[0], x[1], x[2], x[3], f, x[4])
		}
	}
	for _, f := range nans() {
		if got := Fix(f, 0, 1, 9); got != 9 {
			t.Errorf("Fix of NaN of %x: %v", math.Float64bits(f), got)
		}
	}
}

func TestFixOfRisingBounds(t *testing.T) { // P2.2
	l := rising()
	for i, f := range l[:len(l)-1] {
		for lo := range l {
			for hi := range l {
				want := f
				if hi < i {
					want = l[hi]
				}
				if i < lo {
					want = l[lo]
				}
				if got := Fix(f, l[lo], l[hi], 9); !same(got, want) {
					t.Errorf("Fix(%v, %v, %v, 9): %v, not %v", f, l[lo], l[hi], got, want)
				}
			}
		}
	}
}

func TestShare(t *testing.T) { // P2.3
	for _, x := range []struct {
		n    int
		f    float64
		want int
	}{
		{10, 0.25, 2}, {10, nan, 0}, {10, inf, 10}, {10, under, 0}, {3, 0.34, 1}, {3, 0.33, 0}, {4, 0.25, 1}, {4, 0.5, 2}, {192, 0.8, 153},
		{10, 0, 0}, {10, minus, 0}, {10, 1, 10}, {10, math.Nextafter(1, 0), 9}, {10, math.Nextafter(1, 2), 10}, {10, -tiny, 0}, {10, tiny, 0}, {10, -7, 0}, {10, 7, 10}, {10, -great, 0}, {10, great, 10},
		{1, 1, 1}, {1, math.Nextafter(1, 0), 0}, {1, 0.999, 0},
		// the product is rounded to a float ahead of being rounded down
		{10, 0.7, 7}, {100, 0.29, 28}, {100, 0.58, 57}, {3, 1.0 / 3, 1}, {49, 1.0 / 49, 0},
		{0, 1, 0}, {0, inf, 0}, {0, nan, 0}, {-1, 1, 0}, {-4, 1, 0}, {-4, -1, 0}, {low, 1, 0}, {low, inf, 0}, {low, under, 0},
		{1 << 31, 1, 1 << 31}, {1<<31 - 1, 1, 1<<31 - 1}, {1<<31 + 1, 1, 1 << 31}, {1 << 40, 1, 1 << 31}, {top, 1, 1 << 31}, {top, inf, 1 << 31}, {top, nan, 0},
		{1 << 31, 0.5, 1 << 30}, {1 << 40, 0.5, 1 << 30}, {1 << 31, math.Nextafter(1, 0), 1<<31 - 1}, {top, 0x1p-31, 1}, {top, math.Nextafter(0x1p-31, 0), 0},
	} {
		if n := Share(x.n, x.f); n != x.want {
			t.Errorf("Share(%d, %v): %d, not %d", x.n, x.f, n, x.want)
		}
	}
}

// product is n times f, rounded to a float's 53 bits, and then down, by numbers of any length.
func product(n int, f float64) int {
	p := new(big.Float).SetPrec(53).Mul(new(big.Float).SetInt64(int64(n)), big.NewFloat(f))
	whole, _ := p.Int64()
	return int(whole)
}

func TestShareRoundsOnceAndDown(t *testing.T) { // P2.3
	for n := range 300 {
		for k := range 300 {
			f := float64(k) / 299
			if got, want := Share(n, f), product(n, f); got != want {
				t.Errorf("Share(%d, %v): %d, not %d", n, f, got, want)
			}
		}
	}
	for _, n := range []int{4095, 65537, 1<<30 + 1, 1<<31 - 3, 1 << 31} {
		for _, f := range rising() {
			if !(f > 0 && f < 1) {
				continue
			}
			if got, want := Share(n, f), product(n, f); got != want {
				t.Errorf("Share(%d, %v): %d, not %d", n, f, got, want)
			}
		}
	}
}

func TestRate(t *testing.T) { // P2.4
	for _, x := range []struct {
		part, whole int
		want        float64
	}{
		{1, 4, 0.25}, {1, 3, 1.0 / 3}, {3, 2, 1.5}, {7, 7, 1}, {-1, 4, -0.25}, {1, -4, -0.25}, {-1, -4, 0.25}, {0, 5, 0}, {0, -5, minus},
		{0, 0, nan}, {1, 0, inf}, {-1, 0, under}, {top, 0, inf}, {low, 0, under},
		{top, 1, 0x1p63}, {low, 1, -0x1p63}, {top, low, -1}, {low, top, -1}, {low, -1, 0x1p63}, {top, top, 1}, {1, low, -0x1p-63},
		// each of both is rounded to a float
		{1<<53 + 1, 1, 1 << 53}, {1, 1<<53 + 1, 0x1p-53}, {1<<53 + 1, 1 << 53, 1},
	} {
		if f := Rate(x.part, x.whole); !same(f, x.want) {
			t.Errorf("Rate(%d, %d): %v, not %v", x.part, x.whole, f, x.want)
		}
	}
}

func TestOver(t *testing.T) { // P2.4
	for _, x := range []struct {
		a    int
		f    float64
		b    int
		want bool
	}{
		{2, 1.5, 2, true}, {2, 1, 2, false}, {3, 1, 2, true}, {1, 1, 2, false}, {4, 0.5, 2, false}, {5, 0.5, 2, true}, {0, 5, 0, false}, {0, 5, -1, true},
		{-2, -1, 1, true}, {-2, 1, -3, true}, {-2, 1, -2, false}, {2, -1, -2, false}, {2, -1, -3, true},
		{1, 0, 0, false}, {1, 0, -1, true}, {1, minus, 0, false}, {-1, 0, 0, false},
		{1, inf, top, true}, {-1, inf, low, false}, {-1, under, top, true}, {1, under, low, false},
		// NaN, given or reckoned: no
		{1, nan, 0, false}, {1, nan, low, false}, {0, nan, -1, false}, {0, inf, 0, false}, {0, inf, -1, false}, {0, under, -1, false}, {0, under, low, false},
		{top, 1, top, false}, {top, 1, top - 1, false}, {top, 1, low, true}, {low, 1, low, false}, {low, -1, top, false}, {top, 2, top, true}, {top, great, top, true},
		// each is rounded to a float
		{1<<53 + 1, 1, 1 << 53, false}, {1<<53 + 2, 1, 1<<53 + 1, true}, {10, 0.7, 7, false}, {10, 0.7, 6, true}, {3, 0.1, 0, true},
		{1, tiny, 0, true}, {1, -tiny, 0, false}, {-1, -tiny, 0, true}, {top, tiny, 0, true}, {1, great, top, true},
	} {
		if got := Over(x.a, x.f, x.b); got != x.want {
			t.Errorf("Over(%d, %v, %d): %v", x.a, x.f, x.b, got)
		}
	}
	for _, f := range nans() {
		if Over(1, f, -1) || Over(top, f, low) {
			t.Errorf("Over of NaN of %x", math.Float64bits(f))
		}
	}
}

func TestBlend(t *testing.T) { // P2.5
	for _, x := range [][4]float64{
		{4, 8, 0.25, 5}, {8, 4, 0.25, 7}, {-4, 4, 0.5, 0}, {4, 8, 0, 4}, {4, 8, 1, 8}, {4, 4, 0.3, 4}, {0, 1, 0.1, 0.1},
		{nan, 8, 0.25, 8}, {4, nan, 0.25, 4}, {nan, nan, 0.25, nan}, {nan, inf, 0, inf}, {inf, nan, 0, inf}, {nan, minus, 1, minus}, {minus, nan, 1, minus}, {nan, 8, nan, 8}, {4, nan, nan, 4},
		// a weight outside 0 to 1 is the nearest one, NaN is 0
		{4, 8, -1, 4}, {4, 8, minus, 4}, {4, 8, -tiny, 4}, {4, 8, under, 4}, {4, 8, 2, 8}, {4, 8, math.Nextafter(1, 2), 8}, {4, 8, inf, 8}, {4, 8, nan, 4},
		// the two infinities, and floats beyond the greatest
		{4, inf, 0.5, inf}, {4, under, 0.5, under}, {inf, 4, 0.5, nan}, {inf, inf, 0.5, nan}, {under, inf, 0.5, nan}, {under, inf, 1, nan}, {4, inf, 0, nan}, {4, inf, nan, nan}, {inf, 4, 0, nan},
		{-great, great, 0.5, inf}, {great, -great, 0.5, under}, {-great, great, 0, nan}, {great, great, 0.5, great},
		// -0 and +0: what is added to old is +0 or -0 by its signs
		{minus, minus, 0.5, 0}, {0, minus, 0.5, 0}, {minus, 0, 0.5, 0}, {0, 0, 0.5, 0}, {minus, -1, 0, minus}, {minus, 1, 0, 0}, {minus, -1, minus, minus}, {minus, -1, nan, minus},
		{0, tiny, 0.5, 0}, {0, tiny, 0.75, tiny}, {0, tiny, 1, tiny}, {minus, -tiny, 0.5, minus},
	} {
		if f := Blend(x[0], x[1], x[2]); !same(f, x[3]) {
			t.Errorf("Blend(%v, %v, %v): %v, not %v", x[0], x[1], x[2], f, x[3])
		}
	}
	for _, f := range nans() {
		if Blend(f, 8, 1) != 8 || Blend(4, f, 1) != 4 || Blend(4, 8, f) != 4 {
			t.Errorf("Blend with NaN of %x", math.Float64bits(f))
		}
	}
}

// rounded is a number of any length as a float.
func rounded(f *big.Float) float64 {
	out, _ := f.Float64()
	return out
}

// blended is what Blend is to tell, with each step rounded by itself.
func blended(old, x, w float64) float64 {
	wide := func(f float64) *big.Float { return new(big.Float).SetPrec(2200).SetFloat64(f) }
	gap := rounded(wide(0).Sub(wide(x), wide(old)))
	step := rounded(wide(0).Mul(wide(w), wide(gap)))
	return rounded(wide(0).Add(wide(old), wide(step)))
}

func TestBlendRoundsEachStep(t *testing.T) { // P2.5
	l := []float64{0.1, 0.3, 1.0 / 3, 0.7, 2.0 / 3, 1, 3, 10, 1e-9, 1e17, -0.1, -7.3, math.Pi}
	for _, old := range l {
		for _, x := range l {
			for _, w := range []float64{0.1, 0.2, 1.0 / 3, 0.5, 0.7, 0.9, math.Nextafter(1, 0), 1} {
				if got, want := Blend(old, x, w), blended(old, x, w); got != want {
					t.Errorf("Blend(%v, %v, %v): %v, not %v", old, x, w, got, want)
				}
			}
		}
	}
}

func TestLast(t *testing.T) { // P2.6
	for _, x := range []struct {
		l     []float64
		want  float64
		found bool
	}{
		{nil, 0, false}, {[]float64{}, 0, false}, {[]float64{nan}, 0, false}, {nans(), 0, false},
		{[]float64{3}, 3, true}, {[]float64{-3}, -3, true}, {[]float64{1, nan, 3, 2}, 3, true}, {[]float64{3, 2, 1}, 3, true}, {[]float64{1, 2, 3}, 3, true}, {[]float64{5, 5}, 5, true},
		{[]float64{-3, -1, -2}, -1, true}, {[]float64{nan, -3}, -3, true}, {[]float64{-3, nan}, -3, true}, {[]float64{nan, -3, nan, -4, nan}, -3, true},
		{[]float64{0}, 0, true}, {[]float64{minus}, minus, true}, {[]float64{minus, 0}, 0, true}, {[]float64{0, minus}, 0, true}, {[]float64{minus, minus, nan}, minus, true},
		{[]float64{under}, under, true}, {[]float64{under, nan}, under, true}, {[]float64{nan, under}, under, true}, {[]float64{under, inf, nan}, inf, true}, {[]float64{inf, great}, inf, true}, {[]float64{under, -great}, -great, true},
		{rising(), inf, true}, {rising()[:12], minus, true}, {rising()[:13], 0, true},
	} {
		kept := slices.Clone(x.l)
		f, found := Last(x.l...)
		if !same(f, x.want) || found != x.found {
			t.Errorf("Last(%v): %v, %v, not %v, %v", x.l, f, found, x.want, x.found)
		}
		if !slices.EqualFunc(kept, x.l, same) {
			t.Errorf("Last(%v) changed its list: %v", kept, x.l)
		}
	}
	if f, found := Last(); f != 0 || found {
		t.Error(f, found)
	}
}

func TestLastHasNoneBehindIt(t *testing.T) { // P2.6
	for _, a := range all() {
		for _, b := range all() {
			for _, c := range all() {
				last, found := Last(a, b, c)
				given := 0
				for _, f := range []float64{a, b, c} {
					if math.IsNaN(f) {
						continue
					}
					given++
					if Less(last, f) {
						t.Errorf("Last(%v, %v, %v): %v", a, b, c, last)
					}
				}
				if found != (given > 0) || math.IsNaN(last) || found && !same(last, a) && !same(last, b) && !same(last, c) {
					t.Errorf("Last(%v, %v, %v): %v, %v", a, b, c, last, found)
				}
			}
		}
	}
}

func TestJustOneIsAheadAndBeingAheadGoesOn(t *testing.T) { // P2.7
	for _, a := range all() {
		for _, b := range all() {
			if Less(a, b) && Less(b, a) || Same(a, b) == (Less(a, b) != Less(b, a)) || Same(a, b) != Same(b, a) {
				t.Errorf("%v and %v", a, b)
			}
			for _, c := range all() {
				if Less(a, b) && Less(b, c) && !Less(a, c) {
					t.Errorf("%v, %v and %v", a, b, c)
				}
				if Same(a, b) && (Less(a, c) != Less(b, c) || Less(c, a) != Less(c, b)) {
					t.Errorf("%v and %v are one, but not beside %v", a, b, c)
				}
			}
		}
	}
}

func TestSharesAreWithinAndRise(t *testing.T) { // P2.7
	l := rising()
	l = l[:len(l)-1]
	for _, n := range []int{low, -1, 0, 1, 2, 3, 10, 192, 1024, 1<<31 - 1, 1 << 31, 1<<31 + 1, top} {
		before := 0
		for _, f := range l {
			share := Share(n, f)
			if share < 0 || share > max(n, 0) || share > 1<<31 {
				t.Errorf("Share(%d, %v): %d", n, f, share)
			}
			if share < before {
				t.Errorf("Share(%d, %v): %d, less than %d", n, f, share, before)
			}
			before = share
		}
		for _, f := range nans() {
			if share := Share(n, f); share != 0 {
				t.Errorf("Share(%d, NaN of %x): %d", n, math.Float64bits(f), share)
			}
		}
	}
}

func FuzzOrderAndShare(f *testing.F) { // P2.7
	f.Add(uint64(0), uint64(1)<<63, 10)
	f.Add(math.Float64bits(0.7), math.Float64bits(nan), top)
	f.Fuzz(func(t *testing.T, bits, more uint64, n int) {
		a, b := math.Float64frombits(bits), math.Float64frombits(more)
		if Same(a, b) == (Less(a, b) || Less(b, a)) || Less(a, b) && Less(b, a) {
			t.Errorf("%v and %v", a, b)
		}
		if s := Share(n, a); s < 0 || s > max(n, 0) {
			t.Errorf("Share(%d, %v): %d", n, a, s)
		}
		if a < b && Share(n, a) > Share(n, b) {
			t.Errorf("shares of %d: %v and %v", n, a, b)
		}
	})
}
