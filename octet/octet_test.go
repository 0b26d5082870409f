package octet

import (
	"bytes"
	"math"
	"strings"
	"testing"
)

// wrongWidths are widths in which no number stands.
func wrongWidths() []int {
	return []int{0, -1, -8, 9, 16, 64, math.MaxInt, math.MinInt, math.MaxInt32, math.MinInt32}
}

// written is what Put must tell, by division instead of shifts.
func written(b []byte, n uint64, width int) []byte {
	out := append([]byte{}, b...)
	for ; width > 0; width-- {
		out = append(out, byte(n%256))
		n /= 256
	}
	return out
}

func numbers() []uint64 {
	l := []uint64{0, 1, 2, 127, 128, 0x0102030405060708, 0xf1f2f3f4f5f6f7f8, math.MaxUint64, math.MaxUint64 - 1}
	for shift := range 64 {
		l = append(l, 1<<shift, 1<<shift-1, 1<<shift+1)
	}
	return l
}

func TestPut(t *testing.T) { // P3.1
	for _, x := range []struct {
		b     []byte
		n     uint64
		width int
		want  string
	}{
		{nil, 258, 3, "\x02\x01\x00"},
		{nil, 0, 1, "\x00"},
		{nil, 255, 1, "\xff"},
		{nil, 256, 1, "\x00"},
		{nil, math.MaxUint64, 1, "\xff"},
		{[]byte{9}, 0x010203, 2, "\x09\x03\x02"},
		{[]byte{9, 8}, 0x0102030405060708, 8, "\x09\x08\x08\x07\x06\x05\x04\x03\x02\x01"},
		{[]byte{}, 1, 8, "\x01\x00\x00\x00\x00\x00\x00\x00"},
		{nil, math.MaxUint64, 8, "\xff\xff\xff\xff\xff\xff\xff\xff"},
		{nil, 0x8000000000000000, 7, "\x00\x00\x00\x00\x00\x00\x00"},
	} {
		if b := Put(x.b, x.n, x.width); string(b) != x.want {
			t.Errorf("Put(%x, %x, %d): %x, not %x", x.b, x.n, x.width, b, x.want)
		}
	}
	for width := 1; width <= 8; width++ {
		for _, n := range numbers() {
			if b, want := Put([]byte{7, 6}, n, width), written([]byte{7, 6}, n, width); !bytes.Equal(b, want) {
				t.Errorf("Put(0706, %x, %d): %x, not %x", n, width, b, want)
			}
		}
	}
}

func TestPutOfOtherWidths(t *testing.T) { // P3.1
	for _, width := range wrongWidths() {
		for _, b := range []string{"", "\x09", "abc"} {
			if got := Put([]byte(b), 0x0102, width); string(got) != b {
				t.Errorf("Put(%x, 258, %d): %x", b, width, got)
			}
		}
		if got := Put(nil, 1, width); len(got) != 0 {
			t.Errorf("Put(nil, 1, %d): %x", width, got)
		}
	}
}

func TestPutSharesNothing(t *testing.T) { // P3.1
	for _, width := range []int{0, 1, 8, 9} {
		memory := []byte("abcdefghijklmnop")
		got := Put(memory[:2], 0x1111111111111111, width)
		if string(memory) != "abcdefghijklmnop" {
			t.Fatalf("width %d: what lies behind was written: %q", width, memory)
		}
		want := string(got)
		memory[0] = 'x'
		if string(got) != want {
			t.Errorf("width %d: the answer shares memory with its argument", width)
		}
		first := Put(got, 1, 1)
		second := Put(got, 2, 1)
		if first[len(got)] != 1 || second[len(got)] != 2 {
			t.Errorf("width %d: two answers share memory: %x, %x", width, first, second)
		}
	}
}

func TestAt(t *testing.T) { // P3.1
	b := []byte{1, 2, 3, 4, 5, 6, 7, 8, 0xf9}
	for _, x := range []struct {
		at, width int
		want      uint64
	}{
		{0, 1, 1}, {8, 1, 0xf9}, {0, 2, 0x0201}, {1, 2, 0x0302}, {7, 2, 0xf908}, {6, 3, 0xf90807},
		{0, 8, 0x0807060504030201}, {1, 8, 0xf908070605040302}, {0, 7, 0x07060504030201}, {2, 7, 0xf9080706050403},
		{5, 4, 0xf9080706}, {4, 5, 0xf908070605}, {3, 6, 0xf90807060504},
	} {
		if n, ok := At(b, x.at, x.width); n != x.want || !ok {
			t.Errorf("At(%d, %d): %x, %v, not %x", x.at, x.width, n, ok, x.want)
		}
	}
	if n, ok := At([]byte{255, 255, 255, 255, 255, 255, 255, 255}, 0, 8); n != math.MaxUint64 || !ok {
		t.Errorf("%x, %v", n, ok)
	}
	if string(b) != "\x01\x02\x03\x04\x05\x06\x07\x08\xf9" {
		t.Errorf("At changed what it was given: %x", b)
	}
}

func TestAtWhereNoneStands(t *testing.T) { // P3.1
	b := []byte{1, 2, 3, 4, 5, 6, 7, 8, 9, 10}
	refused := func(b []byte, at, width int) {
		t.Helper()
		if n, ok := At(b, at, width); n != 0 || ok {
			t.Errorf("At(%x, %d, %d): %x, %v", b, at, width, n, ok)
		}
	}
	for _, width := range wrongWidths() {
		for _, at := range []int{0, 1, 9, 10, -1, math.MaxInt, math.MinInt} {
			refused(b, at, width)
			refused(nil, at, width)
		}
	}
	for width := 1; width <= 8; width++ {
		for _, at := range []int{-1, -2, -width, math.MinInt, len(b) - width + 1, len(b), len(b) + 1, math.MaxInt, math.MaxInt - width + 1} {
			refused(b, at, width)
		}
		if _, ok := At(b, len(b)-width, width); !ok {
			t.Errorf("the last place that fits, width %d", width)
		}
		// What lies behind the length is not there.
		refused(b[:width-1], 0, width)
		refused(b[:width], 1, width)
		refused(nil, 0, width)
	}
}

// same holds a reader against what it must tell.
func same(t *testing.T, r *Reader, left int, bad, done bool) {
	t.Helper()
	if r.Left() != left || r.Bad() != bad || r.Done() != done {
		t.Errorf("left %d, bad %v, done %v, not %d, %v, %v", r.Left(), r.Bad(), r.Done(), left, bad, done)
	}
}

func TestReader(t *testing.T) { // P3.2
	r := Read([]byte{1, 2, 3, 4, 5, 6, 7, 8, 9, 10, 11, 12, 13, 14})
	same(t, r, 14, false, false)
	if n := r.U(1); n != 1 {
		t.Errorf("%x", n)
	}
	same(t, r, 13, false, false)
	if b := r.Bytes(2); string(b) != "\x02\x03" {
		t.Errorf("%x", b)
	}
	same(t, r, 11, false, false)
	if b := r.Bytes(0); len(b) != 0 {
		t.Errorf("%x", b)
	}
	same(t, r, 11, false, false)
	if n := r.U(8); n != 0x0b0a090807060504 {
		t.Errorf("%x", n)
	}
	same(t, r, 3, false, false)
	if n := r.U(3); n != 0x0e0d0c {
		t.Errorf("%x", n)
	}
	same(t, r, 0, false, true)
	if b := r.Bytes(0); len(b) != 0 {
		t.Errorf("%x", b)
	}
	same(t, r, 0, false, true)
}

func TestReaderOfNothing(t *testing.T) { // P3.2
	for _, b := range [][]byte{nil, {}, []byte("abc")[:0]} {
		r := Read(b)
		if r == nil {
			t.Fatal("no reader")
		}
		same(t, r, 0, false, true)
		r.Bytes(0)
		same(t, r, 0, false, true)
		if n := r.U(1); n != 0 {
			t.Error(n)
		}
		same(t, r, 0, true, false)
		q := Read(b)
		if b := q.Bytes(1); len(b) != 0 {
			t.Errorf("%x", b)
		}
		same(t, q, 0, true, false)
	}
}

func TestReaderTellsAllAtOnce(t *testing.T) { // P3.2
	for width := 1; width <= 8; width++ {
		r := Read(bytes.Repeat([]byte{0xab}, width))
		if n := r.U(width); n != 0xabababababababab>>(64-8*width) {
			t.Errorf("%d: %x", width, n)
		}
		same(t, r, 0, false, true)
		q := Read(bytes.Repeat([]byte{0xab}, width-1))
		if n := q.U(width); n != 0 {
			t.Errorf("%d: %x", width, n)
		}
		same(t, q, 0, true, false)
		p := Read(bytes.Repeat([]byte{0xab}, width))
		if b := p.Bytes(width); len(b) != width {
			t.Errorf("%d: %x", width, b)
		}
		same(t, p, 0, false, true)
	}
}

// spoilers are what makes a reader of 9 octets bad.
func spoilers() map[string]func(r *Reader) bool {
	l := map[string]func(r *Reader) bool{
		"Bytes(10)":     func(r *Reader) bool { return len(r.Bytes(10)) == 0 },
		"Bytes(-1)":     func(r *Reader) bool { return len(r.Bytes(-1)) == 0 },
		"Bytes(lowest)": func(r *Reader) bool { return len(r.Bytes(math.MinInt)) == 0 },
		"Bytes(most)":   func(r *Reader) bool { return len(r.Bytes(math.MaxInt)) == 0 },
		"U(8), U(2)":    func(r *Reader) bool { return r.U(8) != 0 && r.U(2) == 0 },
	}
	for _, width := range wrongWidths() {
		l["U"+Hex(Put(nil, uint64(width), 8))] = func(r *Reader) bool { return r.U(width) == 0 }
	}
	return l
}

func TestReaderThatIsBad(t *testing.T) { // P3.2
	for name, spoil := range spoilers() {
		r := Read([]byte{1, 2, 3, 4, 5, 6, 7, 8, 9})
		if !spoil(r) {
			t.Errorf("%s: not 0, not nothing", name)
		}
		for range 2 { // it never gets well again
			same(t, r, 0, true, false)
			for _, width := range []int{1, 2, 8, 0, 9} {
				if n := r.U(width); n != 0 {
					t.Errorf("%s: U(%d): %x", name, width, n)
				}
			}
			for _, n := range []int{0, 1, 9, -1, 10} {
				if b := r.Bytes(n); len(b) != 0 {
					t.Errorf("%s: Bytes(%d): %x", name, n, b)
				}
			}
			same(t, r, 0, true, false)
		}
	}
}

func TestReaderThatReadDidNotMake(t *testing.T) { // P3.2
	for _, r := range []*Reader{nil, {}, new(Reader)} {
		same(t, r, 0, true, false)
		for _, width := range append(wrongWidths(), 1, 8) {
			if n := r.U(width); n != 0 {
				t.Error(width, n)
			}
		}
		for _, n := range []int{0, 1, -1, math.MaxInt, math.MinInt} {
			if b := r.Bytes(n); len(b) != 0 {
				t.Error(n, b)
			}
		}
		same(t, r, 0, true, false)
	}
}

func TestReaderSharesNothing(t *testing.T) { // P3.2
	memory := []byte{1, 2, 3, 4, 5, 6}
	r := Read(memory[:4])
	same(t, r, 4, false, false)
	memory[0], memory[3] = 99, 99
	first := r.Bytes(2)
	if string(first) != "\x01\x02" {
		t.Errorf("what was handed in was kept: %x", first)
	}
	first[1] = 77
	_ = append(first, 88, 88, 88)
	if b := r.Bytes(2); string(b) != "\x03\x04" {
		t.Errorf("an answer shares memory with the reader: %x", b)
	}
	if string(memory) != "\x63\x02\x03\x63\x05\x06" {
		t.Errorf("what was handed in was changed: %x", memory)
	}
	same(t, r, 0, false, true)
}

func TestHex(t *testing.T) { // P3.3
	for _, x := range []struct {
		b    []byte
		want string
	}{
		{nil, ""}, {[]byte{}, ""}, {[]byte{0}, "00"}, {[]byte{0, 255}, "00ff"}, {[]byte{0, 0x9f, 0xa0}, "009fa0"},
		{[]byte{0x01, 0x23, 0x45, 0x67, 0x89, 0xab, 0xcd, 0xef}, "0123456789abcdef"}, {[]byte{1, 2, 3}[:2], "0102"},
	} {
		if s := Hex(x.b); s != x.want {
			t.Errorf("Hex(%v): %q, not %q", x.b, s, x.want)
		}
		if b, ok := Unhex(x.want); !ok || !bytes.Equal(b, x.b) {
			t.Errorf("Unhex(%q): %v, %v", x.want, b, ok)
		}
	}
}

func TestUnhexOfNone(t *testing.T) { // P3.3
	for _, s := range []string{
		"0", "a", "000", "00f", "00ff0", "A0", "0A", "aF", "Fa", "FF", "00FF", "g0", "0g", "G0", "0G",
		" 0", "0 ", "00 ", " 00", "  ", "0x", "0x00", "-1", "+1", "0_", "00\n", "00\n\n", "\x00\x00",
		"é", "0é0", "００", "\xff\xff", "00000000g0", "0000000000A0",
	} {
		if b, ok := Unhex(s); len(b) != 0 || ok {
			t.Errorf("Unhex(%q): %x, %v", s, b, ok)
		}
	}
	for sign := range 256 {
		digit := strings.IndexByte("0123456789abcdef", byte(sign)) >= 0
		high, okHigh := Unhex(string([]byte{byte(sign), '0'}))
		low, okLow := Unhex(string([]byte{'0', byte(sign)}))
		if okHigh != digit || okLow != digit || !digit && (len(high) != 0 || len(low) != 0) {
			t.Errorf("sign %d: %x %v, %x %v", sign, high, okHigh, low, okLow)
		}
	}
}

func TestWhatWasPutIsRead(t *testing.T) { // P3.4
	var b []byte
	var want []uint64
	var widths []int
	for i, n := range numbers() {
		width := i%8 + 1
		b = Put(b, n, width)
		widths = append(widths, width)
		want = append(want, n<<(64-8*width)>>(64-8*width))
	}
	r := Read(b)
	at := 0
	for i, width := range widths {
		if n := r.U(width); n != want[i] {
			t.Errorf("number %d of width %d: %x, not %x", i, width, n, want[i])
		}
		if n, ok := At(b, at, width); n != want[i] || !ok {
			t.Errorf("At(%d, %d): %x, %v, not %x", at, width, n, ok, want[i])
		}
		at += width
		if r.Left() != len(b)-at {
			t.Errorf("left: %d, not %d", r.Left(), len(b)-at)
		}
	}
	same(t, r, 0, false, true)
}

func TestUnhexUndoesHex(t *testing.T) { // P3.4
	var all []byte
	for o := range 256 {
		one := []byte{byte(o)}
		if b, ok := Unhex(Hex(one)); !ok || !bytes.Equal(b, one) {
			t.Errorf("%x: %x, %v", one, b, ok)
		}
		if len(Hex(one)) != 2 {
			t.Errorf("%x: %q", one, Hex(one))
		}
		all = append(all, byte(o))
	}
	if b, ok := Unhex(Hex(all)); !ok || !bytes.Equal(b, all) {
		t.Errorf("%x, %v", b, ok)
	}
	if b, ok := Unhex(Hex(nil)); !ok || len(b) != 0 {
		t.Errorf("%x, %v", b, ok)
	}
	for _, s := range []string{"", "00", "7f80", "deadbeef"} {
		if b, ok := Unhex(s); !ok || Hex(b) != s {
			t.Errorf("%q: %q, %v", s, Hex(b), ok)
		}
	}
}
