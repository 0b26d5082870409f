package mix

import (
	"math"
	"math/big"
	"math/rand"
	"slices"
	"testing"
)

// ends are numbers at the edges, and with all kinds of bits.
func ends() []uint64 {
	l := []uint64{0, 1, 2, 3, 7, 99, math.MaxInt64, math.MaxUint64, math.MaxUint64 - 1, step, first, second, 0x5555555555555555, 0xaaaaaaaaaaaaaaaa}
	for i := range 64 {
		l = append(l, 1<<i, 1<<i-1, ^uint64(1<<i))
	}
	r := rand.New(rand.NewSource(5))
	for range 100 {
		l = append(l, r.Uint64())
	}
	return l
}

// slow is what a seed makes of a number as the chapter's words say it, in numbers without bound.
func slow(seed, n uint64) uint64 {
	base := new(big.Int).Lsh(big.NewInt(1), 64)
	hex := func(s string) *big.Int {
		x, _ := new(big.Int).SetString(s, 16)
		return x
	}
	times := func(x, f *big.Int) *big.Int {
		x = new(big.Int).Mul(x, f)
		return x.Mod(x, base)
	}
	over := func(x *big.Int, down uint) *big.Int {
		return new(big.Int).Xor(x, new(big.Int).Rsh(x, down))
	}
	x := new(big.Int).SetUint64(n)
	x.Add(x, times(new(big.Int).SetUint64(seed), hex("9E3779B97F4A7C15")))
	x.Mod(x, base)
	x = times(over(x, 30), hex("BF58476D1CE4E5B9"))
	x = times(over(x, 27), hex("94D049BB133111EB"))
	return over(x, 31).Uint64()
}

func TestOf(t *testing.T) { // P5.1
	for _, x := range []struct{ seed, n, want uint64 }{
		{0, 0, 0},
		{1, 0, 0xe220a8397b1dcdaf},
		{2, 0, 0x6e789e6aa1b965f4},
		{3, 0, 0x06c45d188009454f},
		{4, 0, 0xf88bb8a8724c81ec},
		{0, 0x9e3779b97f4a7c15, 0xe220a8397b1dcdaf},
		{1, 1234567, 0x599ed017fb08fc85},
	} {
		if got := Of(x.seed, x.n); got != x.want {
			t.Errorf("Of(%x, %x): %x, not %x", x.seed, x.n, got, x.want)
		}
	}
	for _, seed := range []uint64{0, 1, 2, 7, 1 << 32, math.MaxInt64, 1 << 63, math.MaxUint64 - 1, math.MaxUint64} {
		for _, n := range ends() {
			if got, want := Of(seed, n), slow(seed, n); got != want {
				t.Errorf("Of(%x, %x): %x, not %x", seed, n, got, want)
			}
		}
	}
}

func TestBack(t *testing.T) { // P5.1
	for _, x := range []struct{ seed, x, want uint64 }{
		{0, 0, 0},
		{1, 0xe220a8397b1dcdaf, 0},
		{1, 0x599ed017fb08fc85, 1234567},
		{0, 0xe220a8397b1dcdaf, 0x9e3779b97f4a7c15},
		{7, Of(7, 99), 99},
	} {
		if got := Back(x.seed, x.x); got != x.want {
			t.Errorf("Back(%x, %x): %x, not %x", x.seed, x.x, got, x.want)
		}
	}
	for _, seed := range ends() {
		for _, n := range ends() {
			if got := Back(seed, Of(seed, n)); got != n {
				t.Fatalf("Back(%x, Of %x): %x", seed, n, got)
			}
		}
	}
	for _, seed := range []uint64{0, 1, 7, 1 << 63, math.MaxUint64} {
		for _, x := range ends() {
			if got := slow(seed, Back(seed, x)); got != x {
				t.Errorf("seed %x makes %x of Back of %x", seed, got, x)
			}
		}
	}
}

func TestUndo(t *testing.T) { // P5.1
	for _, n := range ends() {
		if f := n | 1; f*undo(f) != 1 {
			t.Errorf("undo(%x): %x", f, undo(f))
		}
		for down := 1; down < 64; down++ {
			if got := lift(lay(n, down), down); got != n {
				t.Errorf("lift(lay(%x, %d)): %x", n, down, got)
			}
		}
	}
}

func TestPick(t *testing.T) { // P5.2
	for _, x := range []struct {
		seed, n       uint64
		k, most, want int
	}{
		{0, 0, 0, 16, 0},
		{0, 0, 1, 16, 15},
		{0, 0, 2, 16, 4},
		{1, 0, 0, 16, 15},
		{2, 0, -1, 16, 15},
		{3, 0, -3, 1000, 0},
		{0, 0, 1, 1, 0},
		{0, 0, 1, 2, 1},
		{0, 0, 2, 2, 0},
		{0, 0, 1, 10, 0xe220a8397b1dcdaf % 10},
		{0, 0, 1, math.MaxInt, 0x6220a8397b1dcdb0},
		{0, 0, 2, math.MaxInt, 0x6e789e6aa1b965f4},
		{math.MaxUint64, 0, 2, 16, 15},
		{math.MaxUint64, 0, 1, math.MaxInt, 0},
		{1, 0, math.MaxInt, 16, int(slow(1<<63, 0) % 16)},
		{0, 0, math.MinInt, 16, int(slow(1<<63, 0) % 16)},
		{1 << 63, 0, math.MinInt, 16, 0},
		{1 << 63, 9, math.MaxInt, 1000, int(slow(math.MaxUint64, 9) % 1000)},
	} {
		if got := Pick(x.seed, x.n, x.k, x.most); got != x.want {
			t.Errorf("Pick(%x, %x, %d, %d): %d, not %d", x.seed, x.n, x.k, x.most, got, x.want)
		}
	}
}

func TestPickWrong(t *testing.T) { // P5.2
	for _, most := range []int{0, -1, -2, -16, math.MinInt, math.MinInt + 1} {
		for _, k := range []int{math.MinInt, -1, 0, 1, 5, math.MaxInt} {
			if got := Pick(5, 5, k, most); got != 0 {
				t.Errorf("Pick(5, 5, %d, %d): %d", k, most, got)
			}
		}
	}
}

func TestPickInside(t *testing.T) { // P5.2
	for _, seed := range ends() {
		for i, n := range ends() {
			k := int(n) - i
			for _, most := range []int{1, 2, 3, 16, 1000, 1 << 62, math.MaxInt} {
				got := Pick(seed, n, k, most)
				if uint64(got) != Of(seed+uint64(k), n)%uint64(most) {
					t.Fatalf("Pick(%x, %x, %d, %d): %d", seed, n, k, most, got)
				}
			}
		}
	}
}

func TestAll(t *testing.T) { // P5.2
	if got := All(0, 0, 3, 16); !slices.Equal(got, []int{0, 15, 4}) {
		t.Error(got)
	}
	for many, want := range map[int]int{
		math.MinInt: 0, -1: 0, 0: 0, 1: 1, 2: 2, 63: 63, 64: 64, 65: 64, 99: 64, math.MaxInt: 64,
	} {
		for _, most := range []int{math.MinInt, -1, 0, 1, 2, 16, math.MaxInt} {
			for _, seed := range []uint64{0, 7, math.MaxUint64} {
				got := All(seed, 99, many, most)
				if len(got) != want {
					t.Errorf("All(%x, 99, %d, %d): %d of them, not %d", seed, many, most, len(got), want)
				}
				for k, p := range got {
					if p != Pick(seed, 99, k, most) {
						t.Errorf("All(%x, 99, %d, %d): %d at %d", seed, many, most, p, k)
					}
				}
			}
		}
	}
}

func TestAllAnew(t *testing.T) { // P5.2
	a, b := All(1, 2, 64, 1000), All(1, 2, 64, 1000)
	clear(a)
	for k, p := range b {
		if p != Pick(1, 2, k, 1000) {
			t.Errorf("two answers share memory: %d at %d", p, k)
		}
	}
}

func TestUnlike(t *testing.T) { // P5.3
	for _, seed := range []uint64{0, 1, 7, 1 << 63, math.MaxUint64} {
		of, back := map[uint64]uint64{}, map[uint64]uint64{}
		tell := func(n uint64) {
			x, y := Of(seed, n), Back(seed, n)
			if m, ok := of[x]; ok && m != n {
				t.Errorf("Of(%x, ..) of %x and %x: %x", seed, m, n, x)
			}
			if m, ok := back[y]; ok && m != n {
				t.Errorf("Back(%x, ..) of %x and %x: %x", seed, m, n, y)
			}
			of[x], back[y] = n, n
			if Of(seed, y) != n || Back(seed, x) != n {
				t.Errorf("of seed %x and %x: there and back is elsewhere", seed, n)
			}
		}
		for n := range uint64(20000) {
			tell(n)
			tell(-n)
			tell(n << 40)
		}
		for _, n := range ends() {
			tell(n)
		}
	}
}
