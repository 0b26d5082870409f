package page

import (
	"bytes"
	"encoding/binary"
	"encoding/hex"
	"hash/crc32"
	"math"
	"math/rand"
	"slices"
	"testing"

	"springhouse/api"
	"springhouse/crc"
)

// noKinds are numbers that are no page's kind; some of them would be one, if but their lowest octet were looked at.
func noKinds() []int {
	l := []int{math.MinInt, math.MinInt + 1, math.MinInt + 2, math.MinInt32, -65535, -256, -255, -254, -249, -8, -7, -2, -1, 0,
		8, 9, 10, 64, 127, 128, 212, 213, 214, 1 << 16, 1<<16 + 2, 1<<32 + 3, math.MaxInt32, math.MaxInt - 1, math.MaxInt}
	for n := 247; n <= 264; n++ {
		l = append(l, n)
	}
	return l
}

// whole is a sector with these two octets ahead and a sum that is right, page or not, laid out without the project's packages.
func whole(first, second byte, payload []byte) []byte {
	b := make([]byte, 60)
	b[0], b[1] = first, second
	for i, o := range payload {
		b[2+i] = o
	}
	return binary.LittleEndian.AppendUint32(b, crc32.ChecksumIEEE(b))
}

// payloads are some of each length that a page has room for.
func payloads() [][]byte {
	l := [][]byte{nil, {}, {0}, {7}, {255}, []byte("abc"), bytes.Repeat([]byte{0}, 58), bytes.Repeat([]byte{255}, 58)}
	r := rand.New(rand.NewSource(9))
	for n := range 59 {
		b := make([]byte, n)
		r.Read(b)
		l = append(l, b)
	}
	return l
}

// padded is the payload as it is got.
func padded(payload []byte) []byte {
	b := make([]byte, 58)
	for i, o := range payload {
		b[i] = o
	}
	return b
}

func put(t testing.TB, kind int, payload []byte) []byte {
	t.Helper()
	b, e := Put(kind, payload)
	if e != api.OK || len(b) != 64 {
		t.Fatalf("Put(%d, %x): %x, %d", kind, payload, b, e)
	}
	return b
}

func gets(t testing.TB, b []byte, kind int, want []byte) {
	t.Helper()
	if got, e := Get(b, kind); e != api.OK || !bytes.Equal(got, want) {
		t.Errorf("Get(%x, %d): %x, %d, not %x", b, kind, got, e, want)
	}
}

func refuses(t testing.TB, b []byte, kind int, want api.Errno) {
	t.Helper()
	if got, e := Get(b, kind); len(got) != 0 || e != want {
		t.Errorf("Get(%x, %d): %x, %d, not %d", b, kind, got, e, want)
	}
}

// isNone asks that b, a sector with a wrong sum, is no page, whatever kind is asked for.
func isNone(t testing.TB, b []byte) {
	t.Helper()
	if kind := Kind(b); kind != 0 {
		t.Errorf("Kind(%x): %d", b, kind)
	}
	for kind := -1; kind <= 9; kind++ {
		refuses(t, b, kind, api.ErrSum)
	}
}

func TestPutExample(t *testing.T) { // P9.1
	for _, x := range []struct {
		kind    int
		payload []byte
		sum     string
	}{
		{2, []byte{7}, "6c036300"},
		{1, nil, "c7259394"},
		{7, nil, "a03f4a38"},
		{7, bytes.Repeat([]byte{255}, 58), "11c727b7"},
	} {
		b := put(t, x.kind, x.payload)
		if b[0] != 213 || int(b[1]) != x.kind || !bytes.Equal(b[2:60], padded(x.payload)) || hex.EncodeToString(b[60:]) != x.sum {
			t.Errorf("Put(%d, %x): %x, whose sum is not %s", x.kind, x.payload, b, x.sum)
		}
	}
}

func TestPut(t *testing.T) { // P9.1
	for kind := 1; kind <= 7; kind++ {
		for _, payload := range payloads() {
			want := whole(213, byte(kind), payload)
			if b := put(t, kind, payload); !bytes.Equal(b, want) {
				t.Errorf("Put(%d, %x): %x, not %x", kind, payload, b, want)
			}
		}
	}
}

func TestPutNoPayload(t *testing.T) { // P9.1: nil, empty, and octets 0 are the same
	for kind := 1; kind <= 7; kind++ {
		want := put(t, kind, nil)
		for n := range 59 {
			if b := put(t, kind, make([]byte, n)); !bytes.Equal(b, want) {
				t.Errorf("Put(%d, %d octets 0): %x, not %x", kind, n, b, want)
			}
		}
	}
}

func TestPutWrongKind(t *testing.T) { // P9.1: the kind is named ahead of the payload
	for _, kind := range noKinds() {
		for _, n := range []int{0, 1, 57, 58, 59, 64, 1 << 16} {
			if b, e := Put(kind, make([]byte, n)); len(b) != 0 || e != api.ErrArg {
				t.Errorf("Put(%d, %d octets): %x, %d", kind, n, b, e)
			}
		}
		if b, e := Put(kind, nil); len(b) != 0 || e != api.ErrArg {
			t.Errorf("Put(%d, nil): %x, %d", kind, b, e)
		}
	}
}

func TestPutLongPayload(t *testing.T) { // P9.1
	for kind := 1; kind <= 7; kind++ {
		for _, n := range []int{59, 60, 62, 63, 64, 65, 128, 4096, 1 << 16, 1<<16 + 58, 1 << 20} {
			if b, e := Put(kind, make([]byte, n)); len(b) != 0 || e != api.ErrLong {
				t.Errorf("Put(%d, %d octets): %x, %d", kind, n, b, e)
			}
		}
	}
}

func TestGet(t *testing.T) { // P9.2
	for kind := 1; kind <= 7; kind++ {
		for _, payload := range payloads() {
			b := whole(213, byte(kind), payload)
			gets(t, b, kind, padded(payload))
			if k := Kind(b); k != kind {
				t.Errorf("Kind(%x): %d, not %d", b, k, kind)
			}
		}
	}
}

func TestGetOtherKind(t *testing.T) { // P9.2
	for stands := 1; stands <= 7; stands++ {
		b := whole(213, byte(stands), []byte("abc"))
		others := noKinds()
		for kind := 1; kind <= 7; kind++ {
			others = append(others, kind)
		}
		// These are the kind that stands there in their lowest octet alone.
		others = append(others, stands+256, stands-256, stands+1<<16, stands+1<<32, stands+math.MinInt)
		for _, kind := range others {
			if kind != stands {
				refuses(t, b, kind, api.ErrForm)
			}
		}
	}
}

func TestGetOtherFirstOctet(t *testing.T) { // P9.2: the sum is right, but the first octet is another one
	for first := range 256 {
		if first == 213 {
			continue
		}
		for kind := range 9 {
			b := whole(byte(first), byte(kind), []byte("abc"))
			for asked := range 9 {
				refuses(t, b, asked, api.ErrForm)
			}
			if k := Kind(b); k != 0 {
				t.Errorf("Kind(%x): %d", b, k)
			}
		}
	}
}

func TestGetKindThatThereIsNot(t *testing.T) { // P9.2: the sum is right, the kind one that there is not, and it is asked for
	for second := range 256 {
		if second >= 1 && second <= 7 {
			continue
		}
		b := whole(213, byte(second), []byte("abc"))
		asked := append(noKinds(), second, second-256, int(int8(second)))
		for kind := 1; kind <= 7; kind++ {
			asked = append(asked, kind)
		}
		for _, kind := range asked {
			refuses(t, b, kind, api.ErrForm)
		}
		if k := Kind(b); k != 0 {
			t.Errorf("Kind(%x): %d", b, k)
		}
	}
}

func TestGetLength(t *testing.T) { // P9.2: the length is named first, whatever else is wrong
	page := whole(213, 3, []byte("abc"))
	var wrong [][]byte
	for n := range 200 {
		if n == 64 {
			continue
		}
		cut := make([]byte, n)
		copy(cut, page)
		wrong = append(wrong, cut, make([]byte, n), bytes.Repeat([]byte{255}, n))
		// Sealed at its own length: its sum is right, and its first octets are a page's.
		sealed := make([]byte, n+2)
		sealed[0], sealed[1] = 213, 3
		if sealed = crc.Seal(sealed); len(sealed) != 64 {
			wrong = append(wrong, sealed)
		}
	}
	wrong = append(wrong, nil, []byte{}, page[:63], page[1:], page[:0], append([]byte{0}, page...), append(slices.Clone(page), 0),
		append(slices.Clone(page), page...), make([]byte, 4096), make([]byte, 1<<20))
	for _, b := range wrong {
		for _, kind := range []int{3, 2, 1, 7, 0, 8, -1, math.MinInt, math.MaxInt} {
			if got, e := Get(b, kind); len(got) != 0 || e != api.ErrShort {
				t.Errorf("Get(%d octets, %d): %x, %d", len(b), kind, got, e)
			}
		}
		if k := Kind(b); k != 0 {
			t.Errorf("Kind(%d octets): %d", len(b), k)
		}
	}
}

func TestGetSumAheadOfForm(t *testing.T) { // P9.2: a wrong sum is named ahead of a wrong form
	for _, first := range []byte{213, 212, 0, 255} {
		for second := range 10 {
			b := whole(first, byte(second), []byte("abc"))
			b[63] ^= 128
			for _, kind := range append(noKinds(), 1, 2, 3, 4, 5, 6, 7) {
				refuses(t, b, kind, api.ErrSum)
			}
			if k := Kind(b); k != 0 {
				t.Errorf("Kind(%x): %d", b, k)
			}
		}
	}
}

func TestGetSumOfOtherOctets(t *testing.T) { // P9.2: the sum is that of all 60, the lowest octet first
	b := whole(213, 3, []byte("abc"))
	for from, to := range map[int]int{1: 60, 2: 60, 0: 59} {
		c := slices.Clone(b)
		binary.LittleEndian.PutUint32(c[60:], crc32.ChecksumIEEE(b[from:to]))
		isNone(t, c)
	}
	c := slices.Clone(b)
	slices.Reverse(c[60:])
	isNone(t, c)
}

func TestBlank(t *testing.T) { // P9.3
	if !Blank(nil) || !Blank([]byte{}) {
		t.Error("Blank of nothing: false")
	}
	for _, n := range []int{1, 2, 8, 58, 60, 63, 64, 65, 128, 4096} {
		b := make([]byte, n)
		if !Blank(b) {
			t.Errorf("Blank(%d octets 0): false", n)
		}
		for i := range b {
			for _, o := range []byte{1, 2, 128, 255} {
				b[i] = o
				if Blank(b) {
					t.Errorf("Blank(%d octets, the one at %d is %d): true", n, i, o)
				}
			}
			b[i] = 0
		}
		for i := range b {
			b[i] = 255
		}
		if Blank(b) {
			t.Errorf("Blank(%d octets 255): true", n)
		}
	}
}

func TestBlankOddOctets(t *testing.T) { // P9.3: octets that wipe each other out in a sum or when they are laid over each other
	for _, b := range [][]byte{{1, 255}, {128, 128}, {5, 5}, {0, 7, 7, 0}, {255, 1, 0}} {
		if Blank(b) {
			t.Errorf("Blank(%d): true", b)
		}
	}
	for kind := 1; kind <= 7; kind++ {
		if Blank(put(t, kind, nil)) {
			t.Errorf("Blank of a page of kind %d: true", kind)
		}
	}
}

func TestPutIsGot(t *testing.T) { // P9.4
	r := rand.New(rand.NewSource(94))
	for range 2000 {
		kind := 1 + r.Intn(7)
		payload := make([]byte, r.Intn(59))
		r.Read(payload)
		b := put(t, kind, payload)
		gets(t, b, kind, padded(payload))
		if k := Kind(b); k != kind {
			t.Errorf("Kind(%x): %d, not %d", b, k, kind)
		}
		got, _ := Get(b, kind)
		if again := put(t, kind, got); !bytes.Equal(again, b) {
			t.Errorf("put again: %x, not %x", again, b)
		}
		refuses(t, b, 1+kind%7, api.ErrForm)
	}
}

func TestTurnedBits(t *testing.T) { // P9.4: at each place, of each width from 1 to 32
	r := rand.New(rand.NewSource(95))
	for kind := 1; kind <= 7; kind++ {
		payload := make([]byte, 58)
		r.Read(payload)
		for _, b := range [][]byte{put(t, kind, nil), put(t, kind, payload)} {
			for at := range 512 {
				for wide := range 32 {
					// The lowest and the highest bit of the change are 1, those between are any.
					turn := r.Uint32()>>(31-wide) | 1 | 1<<wide
					c := crc.Turn(b, at, turn)
					if k := Kind(c); k != 0 {
						t.Errorf("Kind(%x), changed by %08x at %d: %d", c, turn, at, k)
					}
					refuses(t, c, kind, api.ErrSum)
				}
			}
		}
	}
}

func TestTurnedEdges(t *testing.T) { // P9.4: the first and the last octet, the sum's own, of 1 and of 32 in a row
	for kind := 1; kind <= 7; kind++ {
		b := put(t, kind, []byte("abc"))
		for _, at := range []int{0, 1, 7, 8, 15, 16, 448, 472, 479, 480, 481, 503, 504, 511} {
			for _, turn := range []uint32{1, 1<<31 | 1, math.MaxUint32} {
				isNone(t, crc.Turn(b, at, turn))
			}
		}
		// The kind turned into each other one, the sum let be.
		for other := range 256 {
			if c := slices.Clone(b); other != kind {
				c[1] = byte(other)
				isNone(t, c)
			}
		}
		// The sum alone wiped out, or turned as a whole.
		isNone(t, append(slices.Clone(b[:60]), 0, 0, 0, 0))
		isNone(t, append(slices.Clone(b[:60]), ^b[60], ^b[61], ^b[62], ^b[63]))
	}
}

func TestTurnedBeyond(t *testing.T) { // P9.4: a change of 33 bits that no sum tells leaves a page, so the bound is sharp
	b := put(t, 4, []byte("abc"))
	c := crc.Turn(crc.Turn(b, 100, 0xdb710641), 132, 1)
	if n, ok := crc.Apart(b, c); n != 33 || !ok {
		t.Fatalf("apart by %d, %t", n, ok)
	}
	if Kind(c) != 4 {
		t.Errorf("Kind(%x): %d", c, Kind(c))
	}
	gets(t, c, 4, c[2:60])
}

func TestBlankIsNoPage(t *testing.T) { // P9.4, and the chapter's example
	b := make([]byte, 64)
	if !Blank(b) {
		t.Error("Blank of a blank sector: false")
	}
	isNone(t, b)
	for _, kind := range append(noKinds(), 1, 2, 3, 4, 5, 6, 7) {
		refuses(t, b, kind, api.ErrSum)
	}
	// Zeros with a sum that is theirs are no page, either.
	zeros := whole(0, 0, nil)
	for kind := -1; kind <= 9; kind++ {
		refuses(t, zeros, kind, api.ErrForm)
	}
	if k := Kind(zeros); k != 0 {
		t.Errorf("Kind(%x): %d", zeros, k)
	}
}

func TestAnyOctets(t *testing.T) { // P9.2: what Kind and Get tell goes together, of octets of all lengths
	r := rand.New(rand.NewSource(96))
	for range 20000 {
		b := make([]byte, []int{0, 1, 3, 4, 60, 63, 64, 64, 64, 64, 65}[r.Intn(11)])
		r.Read(b)
		if len(b) == 64 && r.Intn(2) == 0 {
			first := []byte{213, 213, 213, 212, byte(r.Intn(256))}[r.Intn(5)]
			b = whole(first, byte(r.Intn(10)), b[2:60])
		}
		page := len(b) == 64 && b[0] == 213 && b[1] >= 1 && b[1] <= 7 && binary.LittleEndian.Uint32(b[60:]) == crc32.ChecksumIEEE(b[:60])
		kind := Kind(b)
		if page != (kind != 0) || page && kind != int(b[1]) {
			t.Errorf("Kind(%x): %d", b, kind)
		}
		for asked := -1; asked <= 9; asked++ {
			got, e := Get(b, asked)
			if right := page && asked == kind; right != (e == api.OK) || right && !bytes.Equal(got, b[2:60]) || !right && len(got) != 0 {
				t.Errorf("Get(%x, %d): %x, %d", b, asked, got, e)
			}
		}
	}
}

func TestMemory(t *testing.T) { // P9.1 to P9.3: nothing handed in is changed or kept, answers are new memory
	memory := bytes.Repeat([]byte{'p'}, 100)
	before := string(memory)
	first := put(t, 3, memory[:5])
	second := put(t, 3, memory[:5])
	if string(memory) != before {
		t.Fatalf("Put changed the payload: %q", memory)
	}
	if !bytes.Equal(first, whole(213, 3, []byte("ppppp"))) {
		t.Errorf("Put read behind the payload's end: %x", first)
	}
	kept := string(second)
	for i := range first {
		first[i] = 'x'
	}
	_ = append(first, "yyyy"...)
	if string(memory) != before || string(second) != kept {
		t.Errorf("what Put told shares memory: %q, %x", memory, second)
	}

	memory = append(slices.Clone(second), "behind"...)
	before = string(memory)
	one, _ := Get(memory[:64], 3)
	two, _ := Get(memory[:64], 3)
	if Kind(memory[:64]) != 3 || Blank(memory[:64]) || string(memory) != before {
		t.Fatalf("changed, or read behind the end: %q", memory)
	}
	kept = string(two)
	for i := range one {
		one[i] = 'x'
	}
	_ = append(one, "yyyyyyyy"...)
	if string(memory) != before || string(two) != kept {
		t.Errorf("what Get told shares memory: %q, %x", memory, two)
	}
	if b := []byte{0, 0, 1}; !Blank(b[:2]) {
		t.Error("Blank read behind the end")
	}
}

func TestSameAgain(t *testing.T) { // P9.1 to P9.3: what is told hangs on the arguments alone
	want := put(t, 5, []byte("abc"))
	Put(8, nil)
	Put(6, bytes.Repeat([]byte{255}, 58))
	Get(nil, 5)
	Get(make([]byte, 64), 5)
	if b := put(t, 5, []byte("abc")); !bytes.Equal(b, want) {
		t.Errorf("Put a second time: %x, not %x", b, want)
	}
}
