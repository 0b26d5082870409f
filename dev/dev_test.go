package dev

import (
	"bytes"
	"math"
	"math/rand"
	"slices"
	"testing"

	"springhouse/api"
	"springhouse/crc"
)

// outside are sectors that there are not, where there are n of them.
func outside(n int) []int {
	return []int{math.MinInt, math.MinInt + 1, math.MinInt32, -4097, -4096, -64, -2, -1, n, n + 1, n + 64, n + 4096, 1 << 32, math.MaxInt - 64, math.MaxInt - 1, math.MaxInt}
}

// filled is a sector of that octet.
func filled(c byte) []byte { return bytes.Repeat([]byte{c}, api.Sector) }

// uneven is a sector in which no two octets are alike.
func uneven(c byte) []byte {
	b := make([]byte, api.Sector)
	for i := range b {
		b[i] = c + byte(i)*3
	}
	return b
}

func made(t testing.TB, sectors int, p *Power) *Dev {
	t.Helper()
	d, e := New(sectors, p)
	if d == nil || e != api.OK {
		t.Fatalf("New(%d): %v, %d", sectors, d, e)
	}
	return d
}

func is(t testing.TB, what string, got, want api.Errno) {
	t.Helper()
	if got != want {
		t.Fatalf("%s: %d, not %d", what, got, want)
	}
}

// holds asks that the sector stands so.
func holds(t testing.TB, d *Dev, at int, want []byte) {
	t.Helper()
	if b, ok := d.Peek(at); !ok || !bytes.Equal(b, want) {
		t.Fatalf("sector %d: %x, %t, not %x", at, b, ok, want)
	}
}

// looseIs asks for just these loose writes: pairs of a sector and how many it has.
func looseIs(t testing.TB, d *Dev, pairs ...int) {
	t.Helper()
	var want []api.Loose
	for i := 0; i < len(pairs); i += 2 {
		want = append(want, api.Loose{At: pairs[i], Many: pairs[i+1]})
	}
	if got := d.Loose(); !slices.Equal(got, want) {
		t.Fatalf("loose: %v, not %v", got, want)
	}
}

func crashed(t testing.TB, d *Dev, fates ...int) *Dev {
	t.Helper()
	x, e := d.Crash(NewPower(), fates...)
	if x == nil || e != api.OK {
		t.Fatalf("Crash(%d): %v, %d", fates, x, e)
	}
	return x
}

// cut is a power that is off.
func cut() *Power {
	p := NewPower()
	p.Cut()
	return p
}

func TestPowerNew(t *testing.T) { // P8.1
	p, q := NewPower(), NewPower()
	if p == nil || p == q || p.Down() || p.Done() != 0 {
		t.Fatal("a new power is on, has done nothing, and is its own")
	}
	d := made(t, 1, p)
	for i := range 3000 {
		is(t, "Flush without a fuse", d.Flush(), api.OK)
		if p.Done() != i+1 || p.Down() {
			t.Fatal("done:", p.Done(), "of", i+1)
		}
	}
	p.Cut()
	if !p.Down() || p.Done() != 3000 || q.Down() || q.Done() != 0 {
		t.Fatal("cut, it is off; what was done was done; another one is on")
	}
	p.Cut()
	if !p.Down() {
		t.Fatal("cut twice")
	}
}

func TestPowerFuse(t *testing.T) { // P8.1
	for _, n := range []int{0, 1, 2, 63, 1 << 20} {
		p := NewPower()
		d := made(t, 0, p)
		is(t, "Fuse", p.Fuse(n), api.OK)
		for range n {
			if e := d.Flush(); e != api.OK {
				t.Fatalf("a fuse of %d, at %d: %d", n, p.Done(), e)
			}
		}
		if p.Down() || p.Done() != n {
			t.Fatalf("a fuse of %d: down %t, done %d", n, p.Down(), p.Done())
		}
		is(t, "Flush behind the fuse", d.Flush(), api.ErrDown)
		if !p.Down() || p.Done() != n {
			t.Fatalf("behind a fuse of %d: down %t, done %d", n, p.Down(), p.Done())
		}
		is(t, "Fuse of an off power", p.Fuse(-1), api.ErrDown)
	}
}

func TestPowerFuseAnew(t *testing.T) { // P8.1
	p := NewPower()
	d := made(t, 0, p)
	is(t, "Fuse 0", p.Fuse(0), api.OK)
	is(t, "Fuse -1", p.Fuse(-1), api.OK)
	for range 20 {
		is(t, "Flush, the fuse taken out", d.Flush(), api.OK)
	}
	is(t, "Fuse 7", p.Fuse(7), api.OK)
	is(t, "Flush", d.Flush(), api.OK)
	is(t, "Fuse 2", p.Fuse(2), api.OK)
	is(t, "Flush", d.Flush(), api.OK)
	is(t, "Flush", d.Flush(), api.OK)
	is(t, "Flush", d.Flush(), api.ErrDown)
	if p.Done() != 23 {
		t.Fatal(p.Done())
	}
}

func TestPowerFuseWrong(t *testing.T) { // P8.1
	wrong := []int{math.MinInt, math.MinInt + 1, -1 << 20, -3, -2, 1<<20 + 1, 1<<20 + 2, 1 << 21, 1 << 32, math.MaxInt - 1, math.MaxInt}
	for _, n := range wrong {
		p := NewPower()
		d := made(t, 0, p)
		p.Fuse(1)
		is(t, "Fuse", p.Fuse(n), api.ErrArg)
		is(t, "Flush", d.Flush(), api.OK)
		is(t, "Flush: the fuse is as it was", d.Flush(), api.ErrDown)
		is(t, "Fuse of an off power", p.Fuse(n), api.ErrDown)
		is(t, "Fuse of nil", (*Power)(nil).Fuse(n), api.ErrNil)
		is(t, "Fuse of one not made", new(Power).Fuse(n), api.ErrNil)
	}
	for _, n := range []int{-1, 0, 1, 1 << 20} {
		is(t, "Fuse of an off power", cut().Fuse(n), api.ErrDown)
		is(t, "Fuse of nil", (*Power)(nil).Fuse(n), api.ErrNil)
		is(t, "Fuse of one not made", new(Power).Fuse(n), api.ErrNil)
	}
}

func TestPowerNone(t *testing.T) { // P8.1
	for _, p := range []*Power{nil, {}} {
		for range 2 {
			if !p.Down() || p.Done() != 0 {
				t.Fatal("a power that nobody made is off and did nothing")
			}
			p.Cut()
		}
		is(t, "Fuse", p.Fuse(1), api.ErrNil)
	}
}

func TestNew(t *testing.T) { // P8.2
	for _, n := range []int{0, 1, 2, 63, api.MaxSize - 1, api.MaxSize} {
		for _, p := range []*Power{NewPower(), cut()} {
			d := made(t, n, p)
			if d.Size() != n || len(d.Loose()) != 0 {
				t.Fatal(d.Size(), d.Loose())
			}
			for at := range n {
				holds(t, d, at, filled(0))
				if d.Rotten(at) {
					t.Fatal("rotten", at)
				}
			}
			for _, at := range outside(n) {
				if b, ok := d.Peek(at); b != nil || ok {
					t.Fatal(n, at, b, ok)
				}
			}
		}
	}
}

func TestNewWrong(t *testing.T) { // P8.2
	for _, n := range []int{math.MinInt, -4096, -2, -1, 4097, 4098, 8192, 1 << 32, math.MaxInt} {
		for _, p := range []*Power{NewPower(), cut(), nil, {}} {
			d, e := New(n, p)
			if d != nil || e != api.ErrArg {
				t.Fatal(n, d, e)
			}
		}
	}
	for _, n := range []int{0, 1, 4096} {
		for _, p := range []*Power{nil, {}} {
			d, e := New(n, p)
			if d != nil || e != api.ErrNil {
				t.Fatal(n, d, e)
			}
		}
	}
}

func TestPeek(t *testing.T) { // P8.2
	p := NewPower()
	d := made(t, 3, p)
	d.Write(1, filled(1))
	d.Flush()
	d.Fail(math.MaxUint64, 0)
	holds(t, d, 1, filled(1))
	d.Write(1, filled(2))
	d.Write(1, filled(3))
	d.Write(2, filled(4))
	for range 2 {
		holds(t, d, 0, filled(0))
		holds(t, d, 1, filled(3))
		holds(t, d, 2, filled(4))
		p.Cut()
	}
}

func TestReadWriteFlush(t *testing.T) { // P8.3
	d := made(t, api.MaxSize, NewPower())
	reads := func(at int, want []byte) {
		t.Helper()
		b, e := d.Read(at)
		if e != api.OK || !bytes.Equal(b, want) {
			t.Fatalf("Read(%d): %x, %d, not %x", at, b, e, want)
		}
	}
	for _, at := range []int{0, 1, 77, api.MaxSize - 1} {
		reads(at, filled(0))
		is(t, "Write", d.Write(at, uneven(7)), api.OK)
		reads(at, uneven(7))
		is(t, "Write", d.Write(at, uneven(8)), api.OK)
		reads(at, uneven(8))
		looseIs(t, d, at, 2)
		is(t, "Flush", d.Flush(), api.OK)
		looseIs(t, d)
		reads(at, uneven(8))
		is(t, "Write", d.Write(at, filled(0)), api.OK)
		looseIs(t, d, at, 1)
		reads(at, filled(0))
		is(t, "Flush", d.Flush(), api.OK)
		is(t, "Write", d.Write(at, uneven(byte(at))), api.OK)
		is(t, "Flush", d.Flush(), api.OK)
	}
	reads(0, uneven(0))
	reads(1, uneven(1))
	reads(2, filled(0))
	reads(77, uneven(77))
}

// sizes are octets that are no sector.
func sizes() [][]byte {
	return [][]byte{nil, {}, {1}, make([]byte, 32), make([]byte, 63), make([]byte, 65), make([]byte, 128), make([]byte, 4096), make([]byte, 10, 64)}
}

func TestReadWriteWrong(t *testing.T) { // P8.3
	for _, n := range []int{0, 1, 5, api.MaxSize} {
		p := NewPower()
		d := made(t, n, p)
		p.Fuse(0)
		d.Fail(1, 1)
		for _, at := range outside(n) {
			b, e := d.Read(at)
			if b != nil || e != api.ErrRange {
				t.Fatal(n, at, b, e)
			}
			is(t, "Write outside", d.Write(at, filled(1)), api.ErrRange)
			for _, b := range sizes() {
				is(t, "Write of no sector outside", d.Write(at, b), api.ErrRange)
			}
		}
		for at := range n {
			is(t, "Write of no sector", d.Write(at, sizes()[at%len(sizes())]), api.ErrArg)
		}
		if p.Down() || p.Done() != 0 || len(d.Loose()) != 0 {
			t.Fatal("what is refused is no writing call")
		}
		if n == 0 {
			continue
		}
		if b, e := d.Read(n - 1); b != nil || e != api.ErrIO {
			t.Fatal("what is refused moves no pattern", b, e)
		}
		is(t, "Write with the fuse burnt", d.Write(n-1, filled(1)), api.ErrDown)
		looseIs(t, d)
		holds(t, d, n-1, filled(0))
	}
}

func TestOctetsBehindLength(t *testing.T) { // P8.3, P8.8
	d := made(t, 1, NewPower())
	long := make([]byte, 200)
	for i := range long {
		long[i] = byte(i)
	}
	was := slices.Clone(long)
	is(t, "Write of a part", d.Write(0, long[10:10+api.Sector]), api.OK)
	is(t, "Write of less", d.Write(0, long[10:10+api.Sector-1]), api.ErrArg)
	holds(t, d, 0, was[10:10+api.Sector])
	if !bytes.Equal(long, was) {
		t.Fatal("what was handed in was changed")
	}
}

func TestPowerGoes(t *testing.T) { // P8.3
	p := NewPower()
	d := made(t, 2, p)
	d.Write(0, filled(1))
	p.Fuse(1)
	is(t, "Write, the fuse's last", d.Write(0, filled(2)), api.OK)
	is(t, "Write, the power goes", d.Write(1, filled(3)), api.ErrDown)
	looseIs(t, d, 0, 2)
	holds(t, d, 1, filled(0))
	q := NewPower()
	f := made(t, 2, q)
	f.Write(0, filled(1))
	q.Fuse(0)
	is(t, "Flush, the power goes", f.Flush(), api.ErrDown)
	looseIs(t, f, 0, 1)
	holds(t, crashed(t, f), 0, filled(0))
}

func TestPowerOff(t *testing.T) { // P8.3
	p := NewPower()
	d := made(t, 2, p)
	d.Write(0, filled(1))
	d.Fail(1, 1)
	p.Cut()
	for _, at := range append(outside(2), 0, 1) {
		if b, e := d.Read(at); b != nil || e != api.ErrDown {
			t.Fatal(at, b, e)
		}
		is(t, "Write, off", d.Write(at, filled(2)), api.ErrDown)
		is(t, "Write of no sector, off", d.Write(at, nil), api.ErrDown)
	}
	is(t, "Flush, off", d.Flush(), api.ErrDown)
	looseIs(t, d, 0, 1)
	holds(t, d, 0, filled(1))
	if p.Done() != 1 || d.Size() != 2 {
		t.Fatal(p.Done(), d.Size())
	}
}

func TestDevNone(t *testing.T) { // P8.2, P8.3, P8.4, P8.5
	for _, d := range []*Dev{nil, {}} {
		for _, at := range append(outside(0), 0) {
			if b, e := d.Read(at); b != nil || e != api.ErrNil {
				t.Fatal(b, e)
			}
			if b, ok := d.Peek(at); b != nil || ok {
				t.Fatal(b, ok)
			}
			is(t, "Write", d.Write(at, filled(1)), api.ErrNil)
			is(t, "Write of nil", d.Write(at, nil), api.ErrNil)
			is(t, "Rot", d.Rot(at, at, 1), api.ErrNil)
			if d.Rotten(at) {
				t.Fatal("rotten")
			}
		}
		d.Fail(1, 1)
		is(t, "Flush", d.Flush(), api.ErrNil)
		if d.Size() != 0 || d.Loose() != nil {
			t.Fatal(d.Size(), d.Loose())
		}
		for _, p := range []*Power{nil, {}, cut(), NewPower()} {
			for _, fates := range [][]int{nil, {0}, {-1}, {1, 2, 3}} {
				x, e := d.Crash(p, fates...)
				if x != nil || e != api.ErrNil {
					t.Fatal(x, e)
				}
			}
		}
	}
}

func TestFailReads(t *testing.T) { // P8.4
	for _, pattern := range []uint64{0, 1, 2, 1 << 62, 1 << 63, 1<<63 | 1, math.MaxUint64, 0xa5a5_0f0f_1234_8001} {
		d := made(t, 2, NewPower())
		d.Write(1, filled(1))
		d.Fail(pattern, 0)
		for i := range 130 {
			fails := i < 64 && pattern>>i&1 == 1
			b, e := d.Read(i % 2)
			if fails && (b != nil || e != api.ErrIO) {
				t.Fatalf("%x, call %d: %x, %d", pattern, i, b, e)
			}
			if !fails && (e != api.OK || !bytes.Equal(b, filled(byte(i%2)))) {
				t.Fatalf("%x, call %d: %x, %d", pattern, i, b, e)
			}
			is(t, "Write", d.Write(1, filled(1)), api.OK)
			is(t, "Flush", d.Flush(), api.OK)
			if _, e := d.Read(2); e != api.ErrRange {
				t.Fatal(e)
			}
		}
	}
}

func TestFailWrites(t *testing.T) { // P8.4
	for _, pattern := range []uint64{0, 1, 2, 1 << 62, 1 << 63, 1<<63 | 1, math.MaxUint64, 0xa5a5_0f0f_1234_8001} {
		p := NewPower()
		d := made(t, 2, p)
		d.Fail(0, pattern)
		many := 0
		for i := range 130 {
			want := api.OK
			if i < 64 && pattern>>i&1 == 1 {
				want = api.ErrIO
			} else {
				many++
			}
			is(t, "Write of no sector", d.Write(1, nil), api.ErrArg)
			is(t, "Write outside", d.Write(2, filled(1)), api.ErrRange)
			before, _ := d.Peek(1)
			is(t, "Write", d.Write(1, filled(byte(i+1))), want)
			if want == api.OK {
				before = filled(byte(i + 1))
			}
			holds(t, d, 1, before)
			if p.Done() != i+1 {
				t.Fatal("a Write that failed was done all the same:", p.Done())
			}
			if b, e := d.Read(1); e != api.OK || !bytes.Equal(b, before) {
				t.Fatal(b, e)
			}
		}
		looseIs(t, d, 1, many)
	}
}

func TestFailAnew(t *testing.T) { // P8.4
	p := NewPower()
	d := made(t, 1, p)
	d.Fail(math.MaxUint64, math.MaxUint64)
	is(t, "Write", d.Write(0, filled(1)), api.ErrIO)
	d.Fail(2, 4)
	for i := range 4 {
		_, e := d.Read(0)
		if (e == api.ErrIO) != (i == 1) {
			t.Fatal(i, e)
		}
		if e := d.Write(0, filled(1)); (e == api.ErrIO) != (i == 2) {
			t.Fatal(i, e)
		}
	}
	d.Fail(math.MaxUint64, math.MaxUint64)
	is(t, "Flush is in no pattern", d.Flush(), api.OK)
	d.Fail(0, 0)
	is(t, "Write", d.Write(0, filled(2)), api.OK)
	if _, e := d.Read(0); e != api.OK {
		t.Fatal(e)
	}
	// The power's going is named ahead of the failure.
	d.Fail(1, 1)
	p.Fuse(0)
	is(t, "Write, the power goes", d.Write(0, filled(3)), api.ErrDown)
}

func TestFailedWriteBurnsFuse(t *testing.T) { // P8.4, P8.7
	p := NewPower()
	d := made(t, 1, p)
	d.Fail(0, 3)
	p.Fuse(2)
	is(t, "Write", d.Write(0, filled(1)), api.ErrIO)
	is(t, "Write", d.Write(0, filled(1)), api.ErrIO)
	is(t, "Write", d.Write(0, filled(1)), api.ErrDown)
	if p.Done() != 2 || !p.Down() {
		t.Fatal(p.Done())
	}
}

func TestRot(t *testing.T) { // P8.4
	turns := []uint32{1, 2, 3, 1 << 31, 1<<31 | 1, math.MaxUint32, 0xa5000f01}
	for _, power := range []*Power{NewPower(), cut()} {
		for _, bit := range []int{0, 1, 7, 8, 200, 479, 480, 481, 510, 511} {
			for _, turn := range turns {
				on := NewPower()
				d := made(t, 2, on)
				d.Write(1, uneven(5))
				d.Flush()
				d = must(d.Crash(power))
				want := crc.Turn(uneven(5), bit, turn)
				if bytes.Equal(want, uneven(5)) {
					is(t, "Rot of no bit", d.Rot(1, bit, turn), api.ErrArg)
					if d.Rotten(1) {
						t.Fatal("rotten, and no bit was turned")
					}
				} else {
					is(t, "Rot", d.Rot(1, bit, turn), api.OK)
					if !d.Rotten(1) {
						t.Fatal("not rotten")
					}
				}
				holds(t, d, 1, want)
				holds(t, d, 0, filled(0))
				if d.Rotten(0) {
					t.Fatal("another sector is rotten")
				}
			}
		}
	}
}

// must is for a call that the test holds right elsewhere.
func must(d *Dev, e api.Errno) *Dev {
	if e != api.OK {
		panic(e)
	}
	return d
}

func TestRotWrong(t *testing.T) { // P8.4
	d := made(t, 3, NewPower())
	for _, bit := range []int{0, 511} {
		is(t, "Rot of no bit", d.Rot(0, bit, 0), api.ErrArg)
	}
	is(t, "Rot beyond the last bit", d.Rot(0, 511, math.MaxUint32-1), api.ErrArg)
	is(t, "Rot beyond the last bit", d.Rot(0, 481, 1<<31), api.ErrArg)
	is(t, "Rot beyond the last bit", d.Rot(0, 510, 12), api.ErrArg)
	if d.Rotten(0) {
		t.Fatal("rotten")
	}
	is(t, "Rot", d.Rot(0, 511, 1), api.OK)
	d.Write(1, filled(1))
	for _, at := range outside(3) {
		is(t, "Rot outside", d.Rot(at, 0, 1), api.ErrRange)
		is(t, "Rot outside, of no bit", d.Rot(at, 0, 0), api.ErrRange)
		if d.Rotten(at) {
			t.Fatal("rotten", at)
		}
	}
	for _, bit := range outside(512) {
		for at := range 3 {
			is(t, "Rot of a bit that there is not", d.Rot(at, bit, 1), api.ErrRange)
			is(t, "Rot of a bit that there is not, none turned", d.Rot(at, bit, 0), api.ErrRange)
		}
	}
	for _, turn := range []uint32{0, 1} {
		is(t, "Rot of a rotten one", d.Rot(0, 511, turn), api.ErrState)
		is(t, "Rot of a loose one", d.Rot(1, 511, turn), api.ErrState)
	}
	holds(t, d, 0, crc.Turn(filled(0), 511, 1))
	holds(t, d, 1, filled(1))
	looseIs(t, d, 1, 1)
}

func TestRottenTillFixedAnew(t *testing.T) { // P8.4
	d := made(t, 2, NewPower())
	is(t, "Rot", d.Rot(0, 3, 5), api.OK)
	is(t, "Rot", d.Rot(1, 3, 5), api.OK)
	is(t, "Flush", d.Flush(), api.OK)
	if !d.Rotten(0) || !d.Rotten(1) {
		t.Fatal("a flush fixed nothing else there")
	}
	is(t, "Write", d.Write(0, filled(9)), api.OK)
	if !d.Rotten(0) {
		t.Fatal("what is fixed is rotten while the write is loose")
	}
	is(t, "Rot", d.Rot(0, 0, 1), api.ErrState)
	is(t, "Flush", d.Flush(), api.OK)
	if d.Rotten(0) || !d.Rotten(1) {
		t.Fatal(d.Rotten(0), d.Rotten(1))
	}
	holds(t, d, 0, filled(9))
	is(t, "Rot anew", d.Rot(0, 0, 1), api.OK)
	holds(t, d, 0, crc.Turn(filled(9), 0, 1))
	// A write that failed fixes nothing.
	d.Fail(0, 1)
	is(t, "Write", d.Write(1, filled(9)), api.ErrIO)
	is(t, "Flush", d.Flush(), api.OK)
	if !d.Rotten(1) {
		t.Fatal("not rotten")
	}
}

func TestLoose(t *testing.T) { // P8.5
	d := made(t, api.MaxSize, NewPower())
	looseIs(t, d)
	for _, at := range []int{4095, 0, 64, 63, 4095, 1, 0, 4095} {
		d.Write(at, filled(0))
	}
	looseIs(t, d, 0, 2, 1, 1, 63, 1, 64, 1, 4095, 3)
	is(t, "Flush", d.Flush(), api.OK)
	looseIs(t, d)
	for at := api.MaxSize - 1; at >= 0; at-- {
		d.Write(at, filled(1))
	}
	all := d.Loose()
	for at := range api.MaxSize {
		if all[at] != (api.Loose{At: at, Many: 1}) {
			t.Fatal(at, all[at])
		}
	}
}

func TestCrashFates(t *testing.T) { // P8.5
	p := NewPower()
	d := made(t, 4, p)
	d.Write(1, filled(1))
	d.Flush()
	d.Write(3, filled(30))
	d.Write(1, filled(10))
	d.Write(1, filled(11))
	for range 2 {
		for one := 0; one <= 2; one++ {
			for three := 0; three <= 1; three++ {
				x := crashed(t, d, one, three)
				holds(t, x, 1, [][]byte{filled(1), filled(10), filled(11)}[one])
				holds(t, x, 3, [][]byte{filled(0), filled(30)}[three])
				holds(t, x, 0, filled(0))
				holds(t, x, 2, filled(0))
				looseIs(t, x)
				if x.Size() != 4 {
					t.Fatal(x.Size())
				}
			}
			x := crashed(t, d, one)
			holds(t, x, 1, [][]byte{filled(1), filled(10), filled(11)}[one])
			holds(t, x, 3, filled(0))
		}
		x := crashed(t, d)
		holds(t, x, 1, filled(1))
		holds(t, x, 3, filled(0))
		looseIs(t, d, 1, 2, 3, 1)
		holds(t, d, 1, filled(11))
		p.Cut()
	}
}

func TestCrashWrong(t *testing.T) { // P8.5
	d := made(t, 4, NewPower())
	d.Write(1, filled(10))
	d.Write(1, filled(11))
	d.Write(3, filled(30))
	refused := func(p *Power, want api.Errno, fates ...int) {
		t.Helper()
		x, e := d.Crash(p, fates...)
		if x != nil || e != want {
			t.Fatal(fates, x, e)
		}
	}
	for _, p := range []*Power{nil, {}} {
		refused(p, api.ErrNil)
		refused(p, api.ErrNil, 0, 0)
		refused(p, api.ErrNil, 0, 0, 0)
		refused(p, api.ErrNil, -1)
	}
	for _, p := range []*Power{NewPower(), cut()} {
		refused(p, api.ErrLong, 0, 0, 0)
		refused(p, api.ErrLong, -1, 9, 0)
		refused(p, api.ErrLong, make([]int, 5000)...)
		for _, fate := range []int{math.MinInt, -2, -1, 3, 4, 1 << 32, math.MaxInt} {
			refused(p, api.ErrRange, fate)
			refused(p, api.ErrRange, fate, 0)
			refused(p, api.ErrRange, 2, fate)
		}
		refused(p, api.ErrRange, 0, 2)
	}
	looseIs(t, d, 1, 2, 3, 1)
	d.Flush()
	refused(NewPower(), api.ErrLong, 0)
	is(t, "Rot", d.Rot(1, 0, 1), api.OK)
}

func TestCrashPower(t *testing.T) { // P8.5
	p := NewPower()
	d := made(t, 1, p)
	d.Fail(math.MaxUint64, math.MaxUint64)
	q := NewPower()
	x := must(d.Crash(q))
	p.Cut()
	is(t, "Write, patterns gone, on the new power", x.Write(0, filled(1)), api.OK)
	if _, e := x.Read(0); e != api.OK {
		t.Fatal(e)
	}
	if q.Done() != 1 || p.Done() != 0 {
		t.Fatal(q.Done(), p.Done())
	}
	// The device's own power may go on, and one that is off be taken.
	same := must(x.Crash(q, 1))
	is(t, "Flush", same.Flush(), api.OK)
	if q.Done() != 2 {
		t.Fatal(q.Done())
	}
	holds(t, same, 0, filled(1))
	off := must(x.Crash(p, 1))
	is(t, "Flush", off.Flush(), api.ErrDown)
	holds(t, off, 0, filled(1))
}

func TestCrashLeavesPatterns(t *testing.T) { // P8.5
	d := made(t, 1, NewPower())
	d.Fail(1, 1)
	crashed(t, d)
	is(t, "Write", d.Write(0, filled(1)), api.ErrIO)
	if _, e := d.Read(0); e != api.ErrIO {
		t.Fatal(e)
	}
}

func TestCrashOfRotten(t *testing.T) { // P8.5
	d := made(t, 3, NewPower())
	for at := range 3 {
		is(t, "Rot", d.Rot(at, 9, 7), api.OK)
	}
	d.Write(0, filled(1))
	d.Write(2, filled(2))
	rot := crc.Turn(filled(0), 9, 7)
	x := crashed(t, d, 0)
	for at := range 3 {
		holds(t, x, at, rot)
		if !x.Rotten(at) {
			t.Fatal("what was rotten is", at)
		}
	}
	x = crashed(t, d, 1)
	holds(t, x, 0, filled(1))
	if x.Rotten(0) || !x.Rotten(1) || !x.Rotten(2) {
		t.Fatal(x.Rotten(0), x.Rotten(1), x.Rotten(2))
	}
	is(t, "Rot", x.Rot(0, 0, 1), api.OK)
	is(t, "Rot", x.Rot(1, 0, 1), api.ErrState)
	// Neither device knows what becomes of the other one.
	y := crashed(t, d, 1, 1)
	y.Rot(0, 0, 1)
	y.Write(1, filled(7))
	y.Flush()
	holds(t, y, 1, filled(7))
	for at := range 3 {
		if !d.Rotten(at) {
			t.Fatal("the device itself stays as it is", at)
		}
	}
	looseIs(t, d, 0, 1, 2, 1)
	d.Flush()
	holds(t, d, 0, filled(1))
	holds(t, d, 1, rot)
	if !y.Rotten(0) || y.Rotten(1) || y.Rotten(2) {
		t.Fatal(y.Rotten(0), y.Rotten(1), y.Rotten(2))
	}
}

func TestBehindFlushACrashChangesNothing(t *testing.T) { // P8.6
	rnd := rand.New(rand.NewSource(81))
	for range 100 {
		n := 1 + rnd.Intn(9)
		p := NewPower()
		d := made(t, n, p)
		for range rnd.Intn(40) {
			at := rnd.Intn(n)
			if rnd.Intn(4) == 0 {
				d.Rot(at, rnd.Intn(512), rnd.Uint32())
			} else {
				d.Write(at, filled(byte(rnd.Intn(256))))
			}
		}
		is(t, "Flush", d.Flush(), api.OK)
		x := crashed(t, d)
		for at := range n {
			b, _ := d.Peek(at)
			holds(t, x, at, b)
			if x.Rotten(at) != d.Rotten(at) {
				t.Fatal(at, "rotten", x.Rotten(at))
			}
		}
		if x.Size() != d.Size() || len(x.Loose()) != 0 {
			t.Fatal(x.Size(), x.Loose())
		}
	}
}

func TestBehindACrashEachIsFixedOrLoose(t *testing.T) { // P8.6
	rnd := rand.New(rand.NewSource(82))
	for range 200 {
		n := 1 + rnd.Intn(6)
		d := made(t, n, NewPower())
		may := make([][][]byte, n)
		for at := range n {
			may[at] = [][]byte{filled(0)}
		}
		for range rnd.Intn(30) {
			at, b := rnd.Intn(n), uneven(byte(rnd.Intn(256)))
			if rnd.Intn(9) == 0 {
				d.Flush()
				for at := range n {
					may[at] = may[at][len(may[at])-1:]
				}
				continue
			}
			d.Write(at, b)
			may[at] = append(may[at], b)
		}
		var fates []int
		picked := make([]int, n)
		for _, l := range d.Loose() {
			picked[l.At] = rnd.Intn(l.Many + 1)
			fates = append(fates, picked[l.At])
		}
		x := crashed(t, d, fates...)
		for at := range n {
			holds(t, x, at, may[at][picked[at]])
		}
	}
}

func TestFuseOfTwoDevices(t *testing.T) { // P8.7
	for n := range 12 {
		p := NewPower()
		a, b := made(t, 1, p), made(t, 2, p)
		p.Fuse(n)
		done := 0
		for i := range 20 {
			var e api.Errno
			switch i % 4 {
			case 0:
				e = a.Write(0, filled(1))
			case 1:
				e = b.Write(1, filled(1))
			case 2:
				e = a.Flush()
			case 3:
				e = b.Flush()
			}
			if e == api.OK {
				done++
			}
			want := api.OK
			if i >= n {
				want = api.ErrDown
			}
			is(t, "a writing call", e, want)
		}
		if done != n || p.Done() != n || !p.Down() {
			t.Fatal(n, done, p.Done())
		}
		for _, d := range []*Dev{a, b} {
			if _, e := d.Read(0); e != api.ErrDown {
				t.Fatal(e)
			}
		}
	}
}

func TestReadsBurnNoFuse(t *testing.T) { // P8.7
	p := NewPower()
	d := made(t, 2, p)
	other := made(t, 2, NewPower())
	p.Fuse(1)
	for range 5 {
		d.Read(0)
		d.Peek(0)
		d.Loose()
		d.Rot(1, 3, 1)
		d.Fail(0, 0)
		other.Flush()
		crashed(t, d)
	}
	if p.Done() != 0 {
		t.Fatal(p.Done())
	}
	is(t, "Flush", d.Flush(), api.OK)
	is(t, "Flush", d.Flush(), api.ErrDown)
	is(t, "Flush of another power", other.Flush(), api.OK)
}

// spoil writes on octets up to their capacity.
func spoil(b []byte) {
	b = b[:cap(b)]
	for i := range b {
		b[i] ^= 0xff
	}
}

func TestMemoryOfItsOwn(t *testing.T) { // P8.8
	d := made(t, 2, NewPower())
	in := uneven(1)
	d.Write(0, in)
	spoil(in)
	in = uneven(2)
	d.Write(0, in)
	spoil(in)
	for range 2 {
		for range 2 {
			b, _ := d.Read(0)
			c, _ := d.Peek(0)
			spoil(b)
			spoil(c)
			holds(t, d, 0, uneven(2))
		}
		if l := d.Loose(); len(l) > 0 {
			l[0] = api.Loose{At: 1, Many: 7}
			looseIs(t, d, 0, 2)
		}
		x, y := crashed(t, d), d
		if len(d.Loose()) > 0 {
			fates := []int{1}
			x, y = crashed(t, d, fates...), crashed(t, d, 2)
			fates[0] = 9
			holds(t, x, 0, uneven(1))
		}
		b, _ := x.Peek(0)
		spoil(b)
		b, _ = y.Read(0)
		spoil(b)
		holds(t, y, 0, uneven(2))
		x.Write(0, filled(9))
		x.Flush()
		x.Rot(0, 0, 1)
		holds(t, d, 0, uneven(2))
		is(t, "Flush", d.Flush(), api.OK)
	}
	d.Rot(0, 0, 1)
	b, _ := d.Peek(0)
	spoil(b)
	holds(t, d, 0, crc.Turn(uneven(2), 0, 1))
}

// event is what befell a sector: a loose write, what was fixed, or a turn.
type event struct {
	kind byte // 'w' loose, 'f' fixed, 'r' turned
	data []byte
}

// slow is a device as the chapter's words say it: all that ever befell each sector.
type slow struct {
	power         *slowPower
	past          [][]event
	reads, writes []bool
}

type slowPower struct {
	off        bool
	fused      bool
	left, done int
}

func (p *slowPower) writing() bool {
	if p.fused && p.left == 0 {
		p.off = true
		return false
	}
	p.left--
	p.done++
	return true
}

func slowOf(n int, p *slowPower) *slow {
	s := &slow{power: p, past: make([][]event, n)}
	for at := range n {
		s.past[at] = []event{{'f', filled(0)}}
	}
	return s
}

func (s *slow) stands(at int) []byte { return s.past[at][len(s.past[at])-1].data }

// split tells what is fixed, whether it is rotten, and the loose writes behind it.
func (s *slow) split(at int) ([]byte, bool, [][]byte) {
	var fixed []byte
	var loose [][]byte
	rotten := false
	for _, e := range s.past[at] {
		switch e.kind {
		case 'w':
			loose = append(loose, e.data)
		case 'f':
			fixed, rotten, loose = e.data, false, nil
		case 'r':
			fixed, rotten, loose = e.data, true, nil
		}
	}
	return fixed, rotten, loose
}

func pattern(u uint64) []bool {
	var p []bool
	for i := range 64 {
		p = append(p, u>>i&1 == 1)
	}
	return p
}

func pop(p *[]bool) bool {
	if len(*p) == 0 {
		return false
	}
	first := (*p)[0]
	*p = (*p)[1:]
	return first
}

func (s *slow) read(at int) ([]byte, api.Errno) {
	switch {
	case s.power.off:
		return nil, api.ErrDown
	case at < 0 || at >= len(s.past):
		return nil, api.ErrRange
	case pop(&s.reads):
		return nil, api.ErrIO
	}
	return s.stands(at), api.OK
}

func (s *slow) write(at int, b []byte) api.Errno {
	switch {
	case s.power.off:
		return api.ErrDown
	case at < 0 || at >= len(s.past):
		return api.ErrRange
	case len(b) != 64:
		return api.ErrArg
	case !s.power.writing():
		return api.ErrDown
	case pop(&s.writes):
		return api.ErrIO
	}
	s.past[at] = append(s.past[at], event{'w', slices.Clone(b)})
	return api.OK
}

func (s *slow) flush() api.Errno {
	if s.power.off || !s.power.writing() {
		return api.ErrDown
	}
	for at := range s.past {
		if _, _, loose := s.split(at); len(loose) > 0 {
			s.past[at] = append(s.past[at], event{'f', s.stands(at)})
		}
	}
	return api.OK
}

func (s *slow) rot(at, bit int, turn uint32) api.Errno {
	if at < 0 || at >= len(s.past) || bit < 0 || bit > 511 {
		return api.ErrRange
	}
	fixed, rotten, loose := s.split(at)
	if rotten || len(loose) > 0 {
		return api.ErrState
	}
	turned := slices.Clone(fixed)
	for i := range 32 {
		if turn>>i&1 == 1 && bit+i < 512 {
			turned[(bit+i)/8] ^= 1 << ((bit + i) % 8)
		}
	}
	if bytes.Equal(turned, fixed) {
		return api.ErrArg
	}
	s.past[at] = append(s.past[at], event{'r', turned})
	return api.OK
}

func (s *slow) crash(p *slowPower, fates []int) (*slow, api.Errno) {
	x := &slow{power: p, past: make([][]event, len(s.past))}
	bad, seen := false, 0
	for at := range s.past {
		fixed, rotten, loose := s.split(at)
		kind := byte('f')
		if rotten {
			kind = 'r'
		}
		kept := event{kind, fixed}
		if len(loose) > 0 {
			if seen < len(fates) {
				f := fates[seen]
				if f < 0 || f > len(loose) {
					bad = true
				} else if f > 0 {
					kept = event{'f', loose[f-1]}
				}
			}
			seen++
		}
		x.past[at] = []event{kept}
	}
	if len(fates) > seen {
		return nil, api.ErrLong
	}
	if bad {
		return nil, api.ErrRange
	}
	return x, api.OK
}

// alike holds all that can be seen of a device, without a call that changes it, against the slow one.
func alike(t testing.TB, d *Dev, p *Power, s *slow) {
	t.Helper()
	if d.Size() != len(s.past) || p.Down() != s.power.off || p.Done() != s.power.done {
		t.Fatal("size, power:", d.Size(), p.Down(), p.Done(), s.power)
	}
	var pairs []int
	for at := range s.past {
		_, rotten, loose := s.split(at)
		holds(t, d, at, s.stands(at))
		if d.Rotten(at) != rotten {
			t.Fatal(at, "rotten:", d.Rotten(at))
		}
		if len(loose) > 0 {
			pairs = append(pairs, at, len(loose))
		}
	}
	looseIs(t, d, pairs...)
}

// run does steps told by octets on two devices of one power, and on slow ones, and holds them against each other.
func run(t testing.TB, steps []byte) {
	p, sp := NewPower(), &slowPower{}
	d := []*Dev{made(t, 3, p), made(t, 5, p)}
	s := []*slow{slowOf(3, sp), slowOf(5, sp)}
	for ; len(steps) >= 4; steps = steps[4:] {
		who, a, b, c := int(steps[0]>>7), int(steps[1]), steps[2], steps[3]
		at := a%7 - 1
		switch steps[0] & 127 % 9 {
		case 0, 1, 2:
			in := uneven(b)
			if c%16 == 0 {
				in = in[:int(b)%65]
			}
			is(t, "Write", d[who].Write(at, in), s[who].write(at, in))
		case 3:
			is(t, "Flush", d[who].Flush(), s[who].flush())
		case 4:
			got, e := d[who].Read(at)
			want, f := s[who].read(at)
			is(t, "Read", e, f)
			if !bytes.Equal(got, want) {
				t.Fatalf("Read(%d): %x, not %x", at, got, want)
			}
		case 5:
			bit := 3*int(b) - 100
			turn := uint32(c) << (a % 25)
			is(t, "Rot", d[who].Rot(at, bit, turn), s[who].rot(at, bit, turn))
		case 6:
			r, w := uint64(b)*uint64(a), uint64(c)<<(b%57)
			d[who].Fail(r, w)
			s[who].reads, s[who].writes = pattern(r), pattern(w)
		case 7:
			n := int(b)%30 - 2
			want := api.OK
			if sp.off {
				want = api.ErrDown
			} else if n < -1 {
				want = api.ErrArg
			} else {
				sp.fused, sp.left = n >= 0, n
			}
			is(t, "Fuse", p.Fuse(n), want)
		case 8:
			p, sp = fall(t, d, s, p, sp, []int{int(b&3) - 1, int(b >> 2 & 3), int(c & 3), int(c >> 2 & 3)}[:a%5])
		}
		alike(t, d[0], p, s[0])
		alike(t, d[1], p, s[1])
	}
}

// fall crashes both devices onto a new power, if the fates may be.
func fall(t testing.TB, d []*Dev, s []*slow, p *Power, sp *slowPower, fates []int) (*Power, *slowPower) {
	t.Helper()
	q, sq := NewPower(), &slowPower{}
	x, e := d[0].Crash(q, fates...)
	y, f := s[0].crash(sq, fates)
	is(t, "Crash", e, f)
	if e != api.OK {
		return p, sp
	}
	p.Cut()
	d[0], s[0] = x, y
	d[1] = must(d[1].Crash(q))
	s[1], _ = s[1].crash(sq, nil)
	return q, sq
}

func TestAgainstSlow(t *testing.T) { // P8.3, P8.4, P8.5, P8.6, P8.7
	rnd := rand.New(rand.NewSource(8))
	for range 400 {
		steps := make([]byte, 4*rnd.Intn(120))
		rnd.Read(steps)
		run(t, steps)
	}
}

func FuzzSteps(f *testing.F) {
	f.Add([]byte{0, 1, 2, 3, 128, 1, 2, 3, 3, 0, 0, 0, 5, 1, 40, 1, 8, 1, 2, 0})
	f.Fuzz(func(t *testing.T, steps []byte) {
		if len(steps) > 4000 {
			steps = steps[:4000]
		}
		run(t, steps)
	})
}
