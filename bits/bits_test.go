package bits

import (
	"math"
	"math/rand"
	"slices"
	"testing"

	"springhouse/api"
)

// lengths are those at the limits, and around the ends of words.
func lengths() []int {
	return []int{0, 1, 2, 9, 62, 63, 64, 65, 127, 128, 129, 130, 191, 192, 193, 1000, 4031, 4032, 4033, 4095, 4096}
}

// outside are numbers for which a set of that length has no room.
func outside(n int) []int {
	return []int{math.MinInt, math.MinInt + 1, math.MinInt32, -4096, -65, -64, -63, -1, n, n + 1, n + 63, n + 64, n + 65, 4096, 4097, 8192, 1 << 32, math.MaxInt - 64, math.MaxInt - 1, math.MaxInt}
}

// setOf is a made set of length n with those numbers in it.
func setOf(t *testing.T, n int, in ...int) *Set {
	t.Helper()
	s, e := New(n)
	if e != api.OK || s == nil {
		t.Fatalf("New(%d): %v, %d", n, s, e)
	}
	for _, i := range in {
		if !s.Put(i) {
			t.Fatalf("Put(%d) into a set of %d: false", i, n)
		}
	}
	return s
}

func full(t *testing.T, n int) *Set {
	t.Helper()
	s := setOf(t, n)
	for i := range n {
		s.Put(i)
	}
	return s
}

// slow is a set as the chapter's words say it: for each number with room, is it in?
type slow []bool

func (x slow) from(i int, in bool) (int, bool) {
	for k := range x {
		if k >= i && x[k] == in {
			return k, true
		}
	}
	return 0, false
}

func (x slow) all() []int {
	var l []int
	for k := range x {
		if x[k] {
			l = append(l, k)
		}
	}
	return l
}

// alike holds all that a set answers against the slow one.
func alike(t *testing.T, s *Set, x slow) {
	t.Helper()
	all := x.all()
	if s.Len() != len(x) || s.Count() != len(all) || !slices.Equal(s.All(), all) {
		t.Fatalf("length %d, not %d; count %d, not %d; %d, not %d", s.Len(), len(x), s.Count(), len(all), s.All(), all)
	}
	for i := range x {
		if s.Has(i) != x[i] {
			t.Fatalf("Has(%d) of %d: %t", i, all, !x[i])
		}
	}
	places := outside(len(x))
	for _, i := range places {
		if s.Has(i) {
			t.Fatalf("Has(%d) of a set of length %d", i, len(x))
		}
	}
	for i := -1; i <= len(x); i += 1 + len(x)/50 {
		places = append(places, i)
	}
	for _, i := range append(places, all[:min(len(all), 20)]...) {
		for _, p := range []int{max(i, math.MinInt+1) - 1, i, min(i, math.MaxInt-1) + 1} {
			sameStep(t, s, x, p)
		}
	}
}

func sameStep(t *testing.T, s *Set, x slow, i int) {
	t.Helper()
	n, ok := s.Next(i)
	if m, want := x.from(i, true); n != m || ok != want {
		t.Fatalf("Next(%d): %d, %t, not %d, %t", i, n, ok, m, want)
	}
	n, ok = s.Free(i)
	if m, want := x.from(i, false); n != m || ok != want {
		t.Fatalf("Free(%d): %d, %t, not %d, %t", i, n, ok, m, want)
	}
}

func TestNew(t *testing.T) { // P6.1
	for n := range api.MaxBits + 1 {
		s, e := New(n)
		if s == nil || e != api.OK || s.Len() != n || s.Count() != 0 || len(s.All()) != 0 {
			t.Errorf("New(%d): %v, %d", n, s, e)
		}
	}
	for _, n := range lengths() {
		alike(t, setOf(t, n), make(slow, n))
	}
}

func TestNewWrong(t *testing.T) { // P6.1
	for _, n := range []int{-1, -2, -64, -4096, math.MinInt, math.MinInt + 1, 4097, 4098, 4160, 8192, 1 << 32, math.MaxInt - 1, math.MaxInt} {
		if s, e := New(n); s != nil || e != api.ErrArg {
			t.Errorf("New(%d): %v, %d", n, s, e)
		}
	}
}

func TestNewApart(t *testing.T) { // P6.1
	a, b := setOf(t, 70, 3, 69), setOf(t, 70)
	if a.Count() != 2 || b.Count() != 0 || b.Has(3) || b.Has(69) {
		t.Error(a.All(), b.All())
	}
}

func TestCountAndHas(t *testing.T) { // P6.1
	for _, n := range lengths() {
		s := setOf(t, n)
		for i := range n {
			if s.Has(i) || s.Count() != i {
				t.Fatalf("of %d, ahead of Put(%d): %t, %d", n, i, s.Has(i), s.Count())
			}
			s.Put(i)
			if !s.Has(i) || s.Count() != i+1 || i+1 < n && s.Has(i+1) {
				t.Fatalf("of %d, behind Put(%d): %t, %d", n, i, s.Has(i), s.Count())
			}
		}
		for _, i := range outside(n) {
			if s.Has(i) || s.Count() != n || s.Len() != n {
				t.Errorf("a full one of %d: Has(%d): %t, %d", n, i, s.Has(i), s.Count())
			}
		}
	}
}

func TestPutAndDrop(t *testing.T) { // P6.2
	s := setOf(t, 9)
	for k, want := range []bool{true, false, false} {
		if got := s.Put(3); got != want {
			t.Errorf("Put(3), time %d: %t", k, got)
		}
	}
	if s.Drop(4) || s.Count() != 1 {
		t.Error("Drop of what was not there")
	}
	for k, want := range []bool{true, false, false} {
		if got := s.Drop(3); got != want {
			t.Errorf("Drop(3), time %d: %t", k, got)
		}
	}
	if !s.Put(3) || !s.Has(3) || s.Count() != 1 {
		t.Error("put, dropped, and put again:", s.All())
	}
}

func TestPutAlone(t *testing.T) { // P6.2
	for _, n := range lengths() {
		none, all := setOf(t, n), full(t, n)
		for i := range n {
			if !none.Put(i) || none.Put(i) || !slices.Equal(none.All(), []int{i}) || !none.Drop(i) || none.Drop(i) || none.Count() != 0 {
				t.Fatalf("of %d: %d alone: %d", n, i, none.All())
			}
			if !all.Drop(i) || all.Drop(i) || all.Has(i) || all.Count() != n-1 || !all.Put(i) || all.Put(i) || all.Count() != n {
				t.Fatalf("of %d: all but %d: %d", n, i, all.Count())
			}
		}
	}
}

func TestPutAndDropWithoutRoom(t *testing.T) { // P6.2
	for _, n := range lengths() {
		for _, s := range []*Set{setOf(t, n), full(t, n)} {
			had := s.All()
			for _, i := range outside(n) {
				if s.Put(i) || s.Drop(i) || s.Has(i) {
					t.Errorf("of %d: Put or Drop of %d: true", n, i)
				}
			}
			if !slices.Equal(s.All(), had) || s.Len() != n || s.Count() != len(had) {
				t.Errorf("of %d: changed to %d", n, s.All())
			}
			if _, ok := s.Free(0); ok != (len(had) < n) {
				t.Errorf("of %d: Free: %t", n, ok)
			}
		}
	}
}

func TestNext(t *testing.T) { // P6.3
	s := setOf(t, 200, 0, 3, 63, 64, 129, 199)
	for i, want := range map[int]int{
		math.MinInt: 0, -64: 0, -1: 0, 0: 0, 1: 3, 3: 3, 4: 63, 62: 63, 63: 63, 64: 64, 65: 129, 128: 129, 129: 129, 130: 199, 192: 199, 198: 199, 199: 199,
	} {
		if n, ok := s.Next(i); n != want || !ok {
			t.Errorf("Next(%d): %d, %t, not %d", i, n, ok, want)
		}
	}
	for _, i := range []int{200, 201, 256, 4096, math.MaxInt - 63, math.MaxInt} {
		if n, ok := s.Next(i); n != 0 || ok {
			t.Errorf("Next(%d): %d, %t", i, n, ok)
		}
	}
	s.Drop(199)
	if n, ok := s.Next(130); n != 0 || ok {
		t.Errorf("Next(130), with none behind it: %d, %t", n, ok)
	}
}

func TestFree(t *testing.T) { // P6.3
	s := full(t, 200)
	for _, i := range []int{0, 3, 63, 64, 129, 199} {
		s.Drop(i)
	}
	for i, want := range map[int]int{
		math.MinInt: 0, -64: 0, -1: 0, 0: 0, 1: 3, 3: 3, 4: 63, 62: 63, 63: 63, 64: 64, 65: 129, 128: 129, 129: 129, 130: 199, 192: 199, 198: 199, 199: 199,
	} {
		if n, ok := s.Free(i); n != want || !ok {
			t.Errorf("Free(%d): %d, %t, not %d", i, n, ok, want)
		}
	}
	for _, i := range []int{200, 201, 255, 256, 4096, math.MaxInt - 63, math.MaxInt} {
		if n, ok := s.Free(i); n != 0 || ok {
			t.Errorf("Free(%d): %d, %t", i, n, ok)
		}
	}
	s.Put(199)
	if n, ok := s.Free(130); n != 0 || ok {
		t.Errorf("Free(130), with none behind it: %d, %t", n, ok)
	}
	if n, ok := setOf(t, 9, 3).Free(3); n != 4 || !ok {
		t.Errorf("Free(3) of 3: %d, %t", n, ok)
	}
}

func TestNextAndFreeOfEmptyAndFull(t *testing.T) { // P6.3
	for _, n := range lengths() {
		none, all := setOf(t, n), full(t, n)
		for i := -1; i <= n+65; i++ {
			want, there := max(i, 0), i < n
			if !there || n == 0 {
				want, there = 0, false
			}
			if m, ok := none.Next(i); m != 0 || ok {
				t.Fatalf("of %d, empty: Next(%d): %d, %t", n, i, m, ok)
			}
			if m, ok := all.Free(i); m != 0 || ok {
				t.Fatalf("of %d, full: Free(%d): %d, %t", n, i, m, ok)
			}
			if m, ok := none.Free(i); m != want || ok != there {
				t.Fatalf("of %d, empty: Free(%d): %d, %t", n, i, m, ok)
			}
			if m, ok := all.Next(i); m != want || ok != there {
				t.Fatalf("of %d, full: Next(%d): %d, %t", n, i, m, ok)
			}
		}
	}
}

func TestAll(t *testing.T) { // P6.4
	s := setOf(t, 4096, 4095, 64, 0, 63, 3, 1000)
	if l := s.All(); !slices.Equal(l, []int{0, 3, 63, 64, 1000, 4095}) {
		t.Error(l)
	}
	a, b := s.All(), s.All()
	clear(a)
	a = append(a[:0], 7, 7, 7, 7, 7, 7, 7)
	if !slices.Equal(b, []int{0, 3, 63, 64, 1000, 4095}) || !slices.Equal(s.All(), b) || s.Has(7) {
		t.Error("an answer shares memory:", a, b, s.All())
	}
	for _, n := range lengths() {
		l := full(t, n).All()
		if len(l) != n {
			t.Errorf("a full one of %d tells %d", n, len(l))
		}
		for i := range l {
			if l[i] != i {
				t.Fatalf("a full one of %d: %d at %d", n, l[i], i)
			}
		}
	}
}

func TestClear(t *testing.T) { // P6.4
	for _, n := range lengths() {
		s := full(t, n)
		s.Clear()
		alike(t, s, make(slow, n))
		s.Clear()
		for i := range n {
			if !s.Put(i) {
				t.Fatalf("of %d, cleared: Put(%d): false", n, i)
			}
		}
		if s.Count() != n {
			t.Errorf("of %d, cleared and filled: %d", n, s.Count())
		}
	}
}

func TestClone(t *testing.T) { // P6.4
	for _, n := range lengths() {
		s := setOf(t, n)
		x := make(slow, n)
		for i := 0; i < n; i += 3 {
			s.Put(i)
			x[i] = true
		}
		c := s.Clone()
		if c == nil || c == s {
			t.Fatalf("of %d: the clone is %p of %p", n, c, s)
		}
		alike(t, c, x)
		s.Clear()
		alike(t, s, make(slow, n))
		alike(t, c, x)
		d := c.Clone()
		for i := range n {
			d.Put(i)
		}
		alike(t, c, x)
		c.Clear()
		if d.Count() != n || s.Count() != 0 || c.Count() != 0 {
			t.Errorf("of %d: not apart: %d, %d, %d", n, s.Count(), c.Count(), d.Count())
		}
	}
}

func TestCloneGoesOnApart(t *testing.T) { // P6.4
	s := setOf(t, 130, 3, 64, 129)
	c := s.Clone()
	if !s.Drop(64) || !s.Put(65) || !c.Drop(3) || !c.Put(0) {
		t.Error("a clone hangs on what it was made of")
	}
	if !slices.Equal(s.All(), []int{3, 65, 129}) || !slices.Equal(c.All(), []int{0, 64, 129}) {
		t.Error(s.All(), c.All())
	}
}

func TestNotMade(t *testing.T) { // P6.1 to P6.4
	var none Set
	for _, s := range []*Set{nil, {}, &none, new(Set)} {
		s.Clear()
		for _, i := range append(outside(0), 1, 2, 63, 64) {
			if s.Put(i) || s.Drop(i) || s.Has(i) {
				t.Errorf("Put, Drop or Has of %d: true", i)
			}
			if n, ok := s.Next(i); n != 0 || ok {
				t.Errorf("Next(%d): %d, %t", i, n, ok)
			}
			if n, ok := s.Free(i); n != 0 || ok {
				t.Errorf("Free(%d): %d, %t", i, n, ok)
			}
		}
		if s.Len() != 0 || s.Count() != 0 || len(s.All()) != 0 || s.Clone() != nil {
			t.Errorf("not made: %d, %d, %d, %v", s.Len(), s.Count(), s.All(), s.Clone())
		}
	}
	if s := setOf(t, 0); s.Clone() == nil || s.Clone().Len() != 0 {
		t.Error("a set without room that New made has no clone")
	}
}

func TestWhatWasPutIsThere(t *testing.T) { // P6.5
	r := rand.New(rand.NewSource(6))
	for _, n := range lengths() {
		s, x := setOf(t, n), make(slow, n)
		for turn := range 2000 {
			i := r.Intn(n+4) - 2
			room := i >= 0 && i < n
			switch r.Intn(5) {
			case 0, 1, 2:
				if got := s.Put(i); got != (room && !x[i]) {
					t.Fatalf("of %d: Put(%d): %t", n, i, got)
				}
				if room {
					x[i] = true
				}
			case 3:
				if got := s.Drop(i); got != (room && x[i]) {
					t.Fatalf("of %d: Drop(%d): %t", n, i, got)
				}
				if room {
					x[i] = false
				}
			case 4:
				if r.Intn(200) == 0 {
					s.Clear()
					clear(x)
				}
			}
			sameStep(t, s, x, i)
			if turn%400 == 0 {
				alike(t, s, x)
			}
		}
		alike(t, s, x)
		alike(t, s.Clone(), x)
	}
}

func TestAsManyAsAllTells(t *testing.T) { // P6.5
	for _, n := range lengths() {
		s := setOf(t, n)
		for i := 0; i < n; i += 1 + i%7 {
			s.Put(i)
			l := s.All()
			if len(l) != s.Count() || !slices.IsSorted(l) || !slices.Contains(l, i) {
				t.Fatalf("of %d: %d, and All tells %d", n, s.Count(), l)
			}
		}
		var walked []int
		for i, ok := s.Next(0); ok && len(walked) <= n; i, ok = s.Next(i + 1) {
			walked = append(walked, i)
		}
		for i, ok := s.Free(0); ok && len(walked) <= n; i, ok = s.Free(i + 1) {
			walked = append(walked, i)
		}
		slices.Sort(walked)
		if !slices.Equal(walked, full(t, n).All()) {
			t.Errorf("of %d: Next and Free tell %d", n, walked)
		}
	}
}

func FuzzSet(f *testing.F) { // P6.2 to P6.5
	f.Add(9, []byte{3, 0, 3, 0, 3, 1})
	f.Add(130, []byte{129, 0, 64, 0, 64, 1, 130, 0})
	f.Add(-1, []byte{})
	f.Add(4097, []byte{0, 0})
	f.Fuzz(func(t *testing.T, n int, steps []byte) {
		s, e := New(n)
		if n < 0 || n > api.MaxBits {
			if s != nil || e != api.ErrArg {
				t.Fatalf("New(%d): %v, %d", n, s, e)
			}
			return
		}
		x := make(slow, n)
		for k := 0; k+1 < len(steps) && k < 400; k += 2 {
			i := int(steps[k]) + int(steps[k+1]>>2)*65 - 4
			room := i >= 0 && i < n
			if in := steps[k+1]&1 == 0; in && s.Put(i) != (room && !x[i]) || !in && s.Drop(i) != (room && x[i]) {
				t.Fatalf("of %d: Put or Drop of %d", n, i)
			} else if room {
				x[i] = in
			}
			sameStep(t, s, x, i)
		}
		alike(t, s, x)
	})
}
