package count

import (
	"fmt"
	"math"
	"math/big"
	"slices"
	"strings"
	"testing"
)

const (
	top = math.MaxInt
	low = math.MinInt
)

// edges are numbers at which something may wrap round or change its sign.
func edges() []int {
	l := []int{0, 1, 2, 3, 5, 7, 8, 9, 63, 64, 1000, 3037000499, 3037000500}
	for shift := 30; shift < 63; shift++ {
		l = append(l, 1<<shift-1, 1<<shift, 1<<shift+1)
	}
	l = append(l, top/3, top/2, top/2+1, top-8, top-1, top)
	for _, n := range slices.Clone(l) {
		l = append(l, -n)
	}
	return append(l, low, low+1, low/2-1, low/3)
}

// ended is a whole number without bound, ending at the bounds.
func ended(n *big.Int) int {
	if n.Cmp(big.NewInt(top)) > 0 {
		return top
	}
	if n.Cmp(big.NewInt(low)) < 0 {
		return low
	}
	return int(n.Int64())
}

func TestClamp(t *testing.T) { // P1.1
	for _, x := range [][4]int{
		{5, 1, 9, 5}, {1, 1, 9, 1}, {9, 1, 9, 9}, {0, 1, 9, 1}, {10, 1, 9, 9}, {-3, -7, -2, -3},
		{4, 4, 4, 4}, {3, 4, 4, 4}, {5, 4, 4, 4},
		{top, low, top, top}, {low, low, top, low}, {top, low, low, low}, {low, top, top, top}, {low, 0, top, 0}, {top, low, 0, 0},
		// lo above hi: below lo it is lo, else above hi it is hi
		{2, 3, 1, 3}, {0, 3, 1, 3}, {3, 3, 1, 1}, {4, 3, 1, 1}, {low, top, low, top}, {top, top, low, low}, {0, top, low, top},
	} {
		if n := Clamp(x[0], x[1], x[2]); n != x[3] {
			t.Errorf("Clamp(%d, %d, %d): %d, not %d", x[0], x[1], x[2], n, x[3])
		}
	}
}

func TestAddEndsAtTheBounds(t *testing.T) { // P1.2
	for _, x := range [][3]int{
		{1, 2, 3}, {-5, 3, -2}, {0, 0, 0}, {top, 1, top}, {1, top, top}, {top, 0, top}, {top, top, top},
		{low, -1, low}, {-1, low, low}, {low, 0, low}, {low, low, low}, {top, low, -1}, {low, top, -1}, {top - 1, 1, top}, {low + 1, -1, low},
	} {
		if n := Add(x[0], x[1]); n != x[2] {
			t.Errorf("Add(%d, %d): %d, not %d", x[0], x[1], n, x[2])
		}
	}
	for _, a := range edges() {
		for _, b := range edges() {
			want := ended(new(big.Int).Add(big.NewInt(int64(a)), big.NewInt(int64(b))))
			if n := Add(a, b); n != want {
				t.Errorf("Add(%d, %d): %d, not %d", a, b, n, want)
			}
		}
	}
}

func TestMulEndsAtTheBounds(t *testing.T) { // P1.2
	for _, x := range [][3]int{
		{3, 4, 12}, {-3, 5, -15}, {-3, -5, 15}, {0, low, 0}, {low, 0, 0}, {0, top, 0}, {1, low, low}, {low, 1, low},
		{low, -1, top}, {-1, low, top}, {top, -1, -top}, {-1, top, -top}, {top, 2, top}, {top, -2, low}, {low, 2, low}, {low, low, top}, {top, top, top}, {top, low, low},
		{1 << 32, 1 << 31, top}, {1 << 32, -1 << 31, low}, {-1 << 32, 1 << 31, low}, {1 << 32, 1 << 32, top}, {1 << 62, 4, top}, {1 << 62, -4, low},
	} {
		if n := Mul(x[0], x[1]); n != x[2] {
			t.Errorf("Mul(%d, %d): %d, not %d", x[0], x[1], n, x[2])
		}
	}
	for _, a := range edges() {
		for _, b := range edges() {
			want := ended(new(big.Int).Mul(big.NewInt(int64(a)), big.NewInt(int64(b))))
			if n := Mul(a, b); n != want {
				t.Errorf("Mul(%d, %d): %d, not %d", a, b, n, want)
			}
		}
	}
}

func TestSumGoesOneByOne(t *testing.T) { // P1.2
	for _, x := range []struct {
		l    []int
		want int
	}{
		{nil, 0}, {[]int{}, 0}, {[]int{7}, 7}, {[]int{1, 2, 3, 4}, 10}, {[]int{-1, -2, 3}, 0}, {[]int{low}, low}, {[]int{top}, top},
		// what ended at a bound goes on from there, so that the order counts
		{[]int{top, 5, -3}, top - 3}, {[]int{5, -3, top}, top}, {[]int{-3, top, 5}, top}, {[]int{low, -5, 3}, low + 3}, {[]int{low, low, top}, -1}, {[]int{top, top, low}, -1}, {[]int{top, low, 1}, 0},
	} {
		if n := Sum(x.l...); n != x.want {
			t.Errorf("Sum of %d: %d, not %d", x.l, n, x.want)
		}
	}
	if n := Sum(); n != 0 {
		t.Error("Sum of none:", n)
	}
}

func TestUp(t *testing.T) { // P1.3
	for _, x := range [][3]int{
		{9, 8, 2}, {8, 8, 1}, {7, 8, 1}, {1, 8, 1}, {16, 8, 2}, {17, 8, 3}, {1, 1, 1},
		{0, 8, 0}, {-3, 8, 0}, {low, 8, 0}, {5, 0, 0}, {5, -1, 0}, {5, low, 0}, {0, 0, 0}, {-9, -8, 0}, {low, low, 0},
		{top, 1, top}, {top, 2, 1 << 62}, {top, top, 1}, {top - 1, top, 1}, {top, top - 1, 2}, {1, top, 1},
	} {
		if n := Up(x[0], x[1]); n != x[2] {
			t.Errorf("Up(%d, %d): %d, not %d", x[0], x[1], n, x[2])
		}
	}
}

func TestRest(t *testing.T) { // P1.3
	for _, x := range [][3]int{
		{9, 8, 1}, {8, 8, 0}, {7, 8, 7}, {0, 8, 0}, {-1, 8, 7}, {-8, 8, 0}, {-9, 8, 7}, {5, 1, 0}, {-5, 1, 0},
		{5, 0, 0}, {-5, 0, 0}, {5, -3, 0}, {-5, -3, 0}, {5, low, 0}, {low, -1, 0}, {low, low, 0},
		{low, 3, 1}, {low, 2, 0}, {low, 1, 0}, {low, top, top - 1}, {-1, top, top - 1}, {top, top, 0}, {top - 1, top, top - 1}, {top, 10, 7},
	} {
		if n := Rest(x[0], x[1]); n != x[2] {
			t.Errorf("Rest(%d, %d): %d, not %d", x[0], x[1], n, x[2])
		}
	}
	for _, n := range edges() {
		for _, by := range edges() {
			if by < 1 {
				if r := Rest(n, by); r != 0 {
					t.Errorf("Rest(%d, %d): %d, not 0", n, by, r)
				}
				continue
			}
			want := ended(new(big.Int).Mod(big.NewInt(int64(n)), big.NewInt(int64(by))))
			if r := Rest(n, by); r != want {
				t.Errorf("Rest(%d, %d): %d, not %d", n, by, r, want)
			}
		}
	}
}

func TestMost(t *testing.T) { // P1.4
	for _, x := range []struct {
		l    []int
		want int
	}{
		{[]int{3}, 3}, {[]int{1, 9, 4}, 9}, {[]int{9, 1, 4}, 9}, {[]int{1, 4, 9}, 9}, {[]int{2, 2}, 2},
		{[]int{-4, -2, -9}, -2}, {[]int{-1}, -1}, {[]int{0}, 0}, {[]int{-1, 0}, 0}, {[]int{low}, low}, {[]int{low, low + 1}, low + 1}, {[]int{low, top, 0}, top},
	} {
		if n, ok := Most(x.l...); n != x.want || !ok {
			t.Errorf("Most of %d: %d, %t, not %d", x.l, n, ok, x.want)
		}
	}
	for _, l := range [][]int{nil, {}} {
		if n, ok := Most(l...); n != 0 || ok {
			t.Errorf("Most of none: %d, %t", n, ok)
		}
	}
}

func TestListsAreNotChanged(t *testing.T) { // P1.2, P1.4: what is handed in stays as it is, behind its length, too
	whole := []int{4, top, 1, low, 99}
	l := whole[:3]
	if n := Sum(l...); n != top {
		t.Error("Sum:", n)
	}
	if n, ok := Most(l[:1]...); n != 4 || !ok {
		t.Error("Most:", n, ok)
	}
	if !slices.Equal(whole, []int{4, top, 1, low, 99}) {
		t.Error("changed:", whole)
	}
}

func TestText(t *testing.T) { // P1.5
	for n, want := range map[int]string{
		0: "0", 7: "7", 10: "10", 100: "100", -1: "-1", -70: "-70", top: "9223372036854775807", low: "-9223372036854775808",
	} {
		if s := Text(n); s != want {
			t.Errorf("Text(%d): %q, not %q", n, s, want)
		}
	}
}

func TestParse(t *testing.T) { // P1.5
	for s, want := range map[string]int{
		"0": 0, "7": 7, "10": 10, "100": 100, "-1": -1, "-70": -70,
		"9223372036854775807": top, "9223372036854775806": top - 1, "-9223372036854775808": low, "-9223372036854775807": low + 1,
	} {
		if n, ok := Parse(s); n != want || !ok {
			t.Errorf("Parse(%q): %d, %t, not %d", s, n, ok, want)
		}
	}
}

func TestParseTakesNoOtherForms(t *testing.T) { // P1.5
	for _, s := range []string{
		"", " ", "\n", "\x00", "-", "+", "--", "--1", "-+1", "+-1",
		"00", "07", "-07", "-0", "-00", "+0", "+7", "007", "000000000000000000000000001",
		" 7", "7 ", "7\n", "\t7", "7\x00", "- 7", "1 2", "1-", "7-1",
		"1a", "a", "0x7", "0b1", "0o7", "1_000", "1e3", "1.0", "1.", ".1", "1,000", "nil", "NaN", "Inf",
		"9223372036854775808", "-9223372036854775809", "18446744073709551616", "18446744073709551623", "99999999999999999999", "-99999999999999999999",
		strings.Repeat("9", 4096), "-" + strings.Repeat("1", 4096), strings.Repeat("0", 4096),
		"\xff", "7\xff", "\u0667", "\uff17", "\u22127",
	} {
		if n, ok := Parse(s); n != 0 || ok {
			t.Errorf("Parse(%q): %d, %t, though it is no number's text", s, n, ok)
		}
	}
}

func TestUpIsTheLeastThatIsEnough(t *testing.T) { // P1.6
	for _, n := range edges() {
		for _, by := range edges() {
			up := Up(n, by)
			if n < 1 || by < 1 {
				if up != 0 {
					t.Errorf("Up(%d, %d): %d, not 0", n, by, up)
				}
				continue
			}
			whole := new(big.Int).Mul(big.NewInt(int64(up)), big.NewInt(int64(by)))
			if whole.Cmp(big.NewInt(int64(n))) < 0 {
				t.Errorf("Up(%d, %d): %d is not enough", n, by, up)
			}
			if whole.Sub(whole, big.NewInt(int64(by))).Cmp(big.NewInt(int64(n))) >= 0 {
				t.Errorf("Up(%d, %d): %d, though one fewer is enough", n, by, up)
			}
		}
	}
}

func TestWhatIsToldIsParsed(t *testing.T) { // P1.6
	l := edges()
	for n := -1100; n <= 1100; n++ {
		l = append(l, n)
	}
	for _, n := range l {
		if x, ok := Parse(Text(n)); x != n || !ok {
			t.Errorf("Parse(Text(%d)): %d, %t", n, x, ok)
		}
		if s := fmt.Sprint(n); Text(n) != s {
			t.Errorf("Text(%d): %q, not %q", n, Text(n), s)
		}
	}
}

func FuzzParse(f *testing.F) { // P1.5, P1.6: taken are just the texts that are told
	for _, s := range []string{"", "0", "-0", "07", "-12", "9223372036854775808"} {
		f.Add(s)
	}
	f.Fuzz(func(t *testing.T, s string) {
		n, ok := Parse(s)
		if ok && Text(n) != s || !ok && n != 0 {
			t.Errorf("Parse(%q): %d, %t", s, n, ok)
		}
	})
}
