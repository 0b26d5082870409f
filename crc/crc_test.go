package crc

import (
	"bytes"
	"hash/crc32"
	"math"
	"math/rand"
	"testing"

	"springhouse/api"
)

// slow is the sum as the chapter's words say it, bit by bit.
func slow(b []byte) uint32 {
	sum := uint32(0xffffffff)
	for _, o := range b {
		sum ^= uint32(o)
		for range 8 {
			odd := sum%2 == 1
			sum /= 2
			if odd {
				sum ^= 0xedb88320
			}
		}
	}
	return ^sum
}

// some are octets of many kinds and lengths.
func some() [][]byte {
	l := [][]byte{nil, {}, {0}, {255}, {0, 0, 0}, []byte("123456789"), bytes.Repeat([]byte{0}, 64), bytes.Repeat([]byte{255}, 64)}
	for o := range 256 {
		l = append(l, []byte{byte(o)}, []byte{0, byte(o)}, []byte{byte(o), 0})
	}
	r := rand.New(rand.NewSource(4))
	for n := range 130 {
		b := make([]byte, n)
		r.Read(b)
		l = append(l, b)
	}
	return l
}

// bit tells a bit of octets, counted octet by octet, from the lowest one on.
func bit(b []byte, at int) byte { return b[at/8] >> (at % 8) & 1 }

func TestFours(t *testing.T) { // P4.1
	for i, want := range fours {
		sum := uint32(i)
		for range 4 {
			odd := sum & 1
			sum = sum>>1 ^ odd*0xedb88320
		}
		if sum != want {
			t.Errorf("fours[%d]: %08x, not %08x", i, want, sum)
		}
	}
}

func TestSum(t *testing.T) { // P4.1
	for s, want := range map[string]uint32{
		"": 0, "a": 0xe8b7be43, "abc": 0x352441c2, "123456789": 0xcbf43926,
		"\x00": 0xd202ef8d, "\xff": 0xff000000, "\x00\x00\x00\x00": 0x2144df1c, "\xff\xff\xff\xff": 0xffffffff,
	} {
		if sum := Sum([]byte(s)); sum != want {
			t.Errorf("Sum(%q): %08x, not %08x", s, sum, want)
		}
	}
	for _, b := range some() {
		want := slow(b)
		if sum := Sum(b); sum != want || sum != crc32.ChecksumIEEE(b) {
			t.Errorf("Sum(%x): %08x, not %08x", b, sum, want)
		}
	}
}

func TestSumOfParts(t *testing.T) { // P4.1
	for _, parts := range [][][]byte{
		nil,
		{},
		{nil},
		{{}, nil, {}},
		{{1}, nil, {2, 3}},
		{nil, {1}, {2, 3}, {}},
		{{1}, {1}},
		{{2}, {1}},
		{{0}, {0}, {0}},
	} {
		want := slow(bytes.Join(parts, nil))
		if sum := Sum(parts...); sum != want {
			t.Errorf("Sum(%x): %08x, not %08x", parts, sum, want)
		}
	}
	if sum := Sum(); sum != 0 {
		t.Errorf("Sum of no parts: %08x", sum)
	}
}

func TestMore(t *testing.T) { // P4.1
	if sum := More(0, []byte("123456789")); sum != 0xcbf43926 {
		t.Errorf("More(0, 123456789): %08x", sum)
	}
	for _, sum := range []uint32{0, 1, 0x80000000, 0xffffffff, 0xcbf43926} {
		for _, none := range [][]byte{nil, {}} {
			if more := More(sum, none); more != sum {
				t.Errorf("More(%08x, nothing): %08x", sum, more)
			}
		}
		for _, b := range some() {
			if more, want := More(sum, b), crc32.Update(sum, crc32.IEEETable, b); more != want {
				t.Errorf("More(%08x, %x): %08x, not %08x", sum, b, more, want)
			}
		}
	}
}

func TestSeal(t *testing.T) { // P4.2
	for s, want := range map[string]string{
		"":          "\x00\x00\x00\x00",
		"123456789": "123456789\x26\x39\xf4\xcb",
		"a":         "a\x43\xbe\xb7\xe8",
		"\xff":      "\xff\x00\x00\x00\xff",
	} {
		if b := Seal([]byte(s)); string(b) != want {
			t.Errorf("Seal(%q): %q, not %q", s, b, want)
		}
	}
	if b := Seal(nil); string(b) != "\x00\x00\x00\x00" {
		t.Errorf("Seal of nothing: %x", b)
	}
}

func TestOpen(t *testing.T) { // P4.2
	for _, x := range []struct {
		b    string
		want string
		e    api.Errno
	}{
		{"", "", api.ErrShort},
		{"\x00", "", api.ErrShort},
		{"\x00\x00", "", api.ErrShort},
		{"\x00\x00\x00", "", api.ErrShort},
		{"\x01\x02\x03", "", api.ErrShort},
		{"\x00\x00\x00\x00", "", api.OK},
		{"\x01\x00\x00\x00", "", api.ErrSum},
		{"\x00\x00\x00\x80", "", api.ErrSum},
		{"\x00\x00\x00\x00\x00", "", api.ErrSum},
		{"\xff\x00\x00\x00\xff", "\xff", api.OK},
		{"\xff\xff\x00\x00\x00", "", api.ErrSum},
		{"123456789\x26\x39\xf4\xcb", "123456789", api.OK},
		{"123456789\xcb\xf4\x39\x26", "", api.ErrSum},
		{"\x26\x39\xf4\xcb123456789", "", api.ErrSum},
		{"123456788\x26\x39\xf4\xcb", "", api.ErrSum},
		{"123456789\x26\x39\xf4\xcb\x00", "", api.ErrSum},
	} {
		if b, e := Open([]byte(x.b)); string(b) != x.want || e != x.e {
			t.Errorf("Open(%q): %q, %d, not %q, %d", x.b, b, e, x.want, x.e)
		}
	}
	if b, e := Open(nil); b != nil || e != api.ErrShort {
		t.Errorf("Open of nothing: %x, %d", b, e)
	}
	for _, b := range some() {
		if o, e := Open(Seal(b)); !bytes.Equal(o, b) || e != api.OK {
			t.Errorf("Open(Seal(%x)): %x, %d", b, o, e)
		}
	}
}

func TestOpenWrongSum(t *testing.T) { // P4.2
	for _, b := range some() {
		s := Seal(b)
		for i := range 32 {
			s[len(b)+i/8] ^= 1 << (i % 8)
			if o, e := Open(s); o != nil || e != api.ErrSum {
				t.Errorf("Open(%x), its sum wrong in bit %d: %x, %d", s, i, o, e)
			}
			s[len(b)+i/8] ^= 1 << (i % 8)
		}
	}
}

func TestTurn(t *testing.T) { // P4.3
	for _, x := range []struct {
		b    string
		at   int
		turn uint32
		want string
	}{
		{"\x00\x00", 0, 1, "\x01\x00"},
		{"\x00\x00", 15, 1, "\x00\x80"},
		{"\x00\x00", 16, 1, "\x00\x00"},
		{"\x00\x00", -1, 1, "\x00\x00"},
		{"\x00\x00", 7, 3, "\x80\x01"},
		{"\x00\x00", -1, 3, "\x01\x00"},
		{"\x00\x00", 15, 3, "\x00\x80"},
		{"\xff\xff", 4, 0xff, "\x0f\xf0"},
		{"\xff\xff", 0, 0, "\xff\xff"},
		{"\xff\xff", 0, 0xffffffff, "\x00\x00"},
		{"\x00\x00", -31, 0x80000000, "\x01\x00"},
		{"\x00\x00", -31, 0x7fffffff, "\x00\x00"},
		{"\x00\x00", -32, 0xffffffff, "\x00\x00"},
		{"\x12\x34\x56\x78\x9a", 8, 0xffffffff, "\x12\xcb\xa9\x87\x65"},
		{"\x00\x00\x00\x00\x00", 3, 0x80000001, "\x08\x00\x00\x00\x04"},
		{"", 0, 0xffffffff, ""},
		{"", -1, 0xffffffff, ""},
	} {
		if b := Turn([]byte(x.b), x.at, x.turn); string(b) != x.want {
			t.Errorf("Turn(%x, %d, %08x): %x, not %x", x.b, x.at, x.turn, b, x.want)
		}
	}
	if b := Turn(nil, 0, 1); len(b) != 0 {
		t.Errorf("Turn of nothing: %x", b)
	}
}

func TestTurnFarPlaces(t *testing.T) { // P4.3
	b := []byte{0x12, 0x34, 0x56, 0x78, 0x9a, 0xbc}
	far := []int{48, 49, 80, 1 << 20, -32, -33, -1 << 20}
	for i := range 70 {
		far = append(far, math.MaxInt-i, math.MinInt+i, math.MaxInt/8-i, math.MinInt/8+i, math.MaxInt32-i, math.MinInt32+i)
	}
	for _, at := range far {
		for _, turn := range []uint32{0, 1, 0x80000000, 0xffffffff} {
			if c := Turn(b, at, turn); !bytes.Equal(c, b) {
				t.Errorf("Turn(%x, %d, %08x): %x", b, at, turn, c)
			}
		}
	}
}

func TestTurnEachPlace(t *testing.T) { // P4.3
	r := rand.New(rand.NewSource(43))
	for n := range 12 {
		b := make([]byte, n)
		r.Read(b)
		for at := -40; at < 8*n+40; at++ {
			for _, turn := range []uint32{0, 1, 2, 0x80000000, 0x55555555, 0xffffffff, r.Uint32(), r.Uint32()} {
				c := Turn(b, at, turn)
				if len(c) != n {
					t.Fatalf("Turn(%x, %d, %08x): %x", b, at, turn, c)
				}
				for i := range 8 * n {
					turned := i >= at && i < at+32 && turn>>(i-at)%2 == 1
					if (bit(b, i) != bit(c, i)) != turned {
						t.Errorf("Turn(%x, %d, %08x): %x: bit %d", b, at, turn, c, i)
					}
				}
				if d := Turn(c, at, turn); !bytes.Equal(d, b) {
					t.Errorf("Turn(%x, %d, %08x) twice: %x", b, at, turn, d)
				}
			}
		}
	}
}

func TestApart(t *testing.T) { // P4.3
	for _, x := range []struct {
		a, b string
		n    int
		ok   bool
	}{
		{"", "", 0, true},
		{"\x01", "\x01", 0, true},
		{"\x01", "\x00", 1, true},
		{"\x80", "\x00", 1, true},
		{"\x81", "\x00", 8, true},
		{"\x7e", "\x00", 6, true},
		{"\x80\x01", "\x00\x00", 2, true},
		{"\x01\x80", "\x00\x00", 16, true},
		{"\x00\x00\x00\x01", "\x00\x00\x00\x00", 1, true},
		{"\xff\xff\xff\xff", "\x00\x00\x00\x00", 32, true},
		{"\x80\x00\x00\x00\x40", "\x00\x00\x00\x00\x00", 32, true},
		{"\x80\x00\x00\x00\x80", "\x00\x00\x00\x00\x00", 33, true},
		{"\x01\x02\x03\x84", "\x03\x02\x03\x04", 31, true},
		{"\x01", "", 0, false},
		{"", "\x00", 0, false},
		{"\x01\x02", "\x01", 0, false},
		{"\x01\x02", "\x03\x02\x01", 0, false},
	} {
		for _, swapped := range []bool{false, true} {
			a, b := []byte(x.a), []byte(x.b)
			if swapped {
				a, b = b, a
			}
			if n, ok := Apart(a, b); n != x.n || ok != x.ok {
				t.Errorf("Apart(%x, %x): %d, %t, not %d, %t", a, b, n, ok, x.n, x.ok)
			}
		}
	}
	if n, ok := Apart(nil, []byte{}); n != 0 || !ok {
		t.Errorf("Apart of nothing: %d, %t", n, ok)
	}
}

func TestApartEachPair(t *testing.T) { // P4.3
	b := bytes.Repeat([]byte{0x5a}, 9)
	for first := range 72 {
		for last := first; last < 72; last++ {
			c := Turn(Turn(b, first, 1), last, 1)
			want := last - first + 1
			if first == last {
				c, want = Turn(b, first, 1), 1
			}
			if n, ok := Apart(b, c); n != want || !ok {
				t.Errorf("Apart, bits %d and %d: %d, %t", first, last, n, ok)
			}
		}
	}
}

func TestCut(t *testing.T) { // P4.4
	r := rand.New(rand.NewSource(44))
	for _, b := range some() {
		want := Sum(b)
		for i := range len(b) + 1 {
			if sum := Sum(b[:i], b[i:]); sum != want {
				t.Errorf("Sum(%x), cut at %d: %08x, not %08x", b, i, sum, want)
			}
			if sum := More(Sum(b[:i]), b[i:]); sum != want {
				t.Errorf("More(%x), cut at %d: %08x, not %08x", b, i, sum, want)
			}
		}
		var parts [][]byte
		sum := Sum()
		for left := b; ; {
			n := r.Intn(len(left) + 1)
			parts = append(parts, left[:n])
			sum = More(sum, left[:n])
			if left = left[n:]; len(left) == 0 {
				break
			}
		}
		if Sum(parts...) != want || sum != want {
			t.Errorf("Sum(%x): %08x, %08x, not %08x", parts, Sum(parts...), sum, want)
		}
	}
}

func TestChangesWithin32Bits(t *testing.T) { // P4.5
	r := rand.New(rand.NewSource(45))
	for _, n := range []int{1, 2, 4, 5, 9, 60} {
		b := make([]byte, n)
		r.Read(b)
		s := Seal(b)
		for at := range 8 * len(s) {
			for wide := range 32 {
				// The lowest and the highest bit of the change are 1, those between are any.
				turn := r.Uint32()>>(31-wide) | 1 | 1<<wide
				if c := Turn(b, at, turn); !bytes.Equal(c, b) && Sum(c) == Sum(b) {
					t.Errorf("Sum(%x) is Sum(%x)", c, b)
				}
				c := Turn(s, at, turn)
				if apart, ok := Apart(s, c); apart < 1 || apart > 32 || !ok {
					t.Errorf("Turn(%x, %d, %08x): apart by %d, %t", s, at, turn, apart, ok)
				}
				if o, e := Open(c); o != nil || e != api.ErrSum {
					t.Errorf("Open(%x), changed by %08x at %d: %x, %d", c, turn, at, o, e)
				}
			}
		}
	}
}

func TestAllChangesOfTwoOctets(t *testing.T) { // P4.5
	seen := map[uint32]bool{}
	for n := range 1 << 16 {
		sum := Sum([]byte{byte(n), byte(n >> 8)})
		if seen[sum] {
			t.Fatalf("two of two octets have the sum %08x", sum)
		}
		seen[sum] = true
	}
}

func TestChangeBeyond32Bits(t *testing.T) { // P4.5: the bound is sharp
	// The sum's rule itself, written as a change of 33 bits, is the least one that no sum tells.
	b := make([]byte, 12)
	c := Turn(Turn(b, 20, 0xdb710641), 52, 1)
	if n, ok := Apart(b, c); n != 33 || !ok {
		t.Fatalf("apart by %d, %t", n, ok)
	}
	if Sum(b) != Sum(c) {
		t.Errorf("Sum(%x): %08x, not %08x", c, Sum(c), Sum(b))
	}
}

func TestMemory(t *testing.T) { // P4.1 to P4.3: nothing handed in is changed, answers are new memory
	whole := []byte("123456789\x26\x39\xf4\xcb....")
	before := string(whole)
	s, b := whole[:13], whole[:9]
	sealed := Seal(b)
	opened, _ := Open(s)
	turned := Turn(s, 0, 0)
	Sum(b, s)
	More(1, s)
	Apart(b, s[:9])
	if string(whole) != before {
		t.Fatalf("changed: %q", whole)
	}
	for _, answer := range [][]byte{sealed, opened, turned} {
		for i := range answer {
			answer[i] = 'x'
		}
		_ = append(answer, "yyyyyyyy"...)
	}
	if string(whole) != before {
		t.Errorf("an answer shares memory with an argument: %q", whole)
	}
}
