package record

import (
	"bytes"
	"encoding/binary"
	"encoding/hex"
	"hash/crc32"
	"math"
	"math/rand"
	"slices"
	"testing"

	"springhouse/api"
	"springhouse/crc"
)

const most = uint64(1) << 62

// unlike is a record each of whose numbers has octets that are all unlike.
var unlike = api.Record{Seq: 0x3102030405060708, Epoch: 0x2112131415161718, Extent: 0xc2c1, Gen: 0x3b3c3d3e3f404142, Mask: 0xa5}

// sealed is a sector with these two octets ahead and a sum that is right, laid out without the project's packages, whether the record may be or not; behind it stands rest, filled up with zeros.
func sealed(mark, kind byte, r api.Record, rest ...byte) []byte {
	b := []byte{mark, kind}
	b = binary.LittleEndian.AppendUint64(b, r.Seq)
	b = binary.LittleEndian.AppendUint64(b, r.Epoch)
	b = binary.LittleEndian.AppendUint16(b, uint16(r.Extent))
	b = binary.LittleEndian.AppendUint64(b, r.Gen)
	b = append(b, r.Mask)
	b = append(b, rest...)
	b = append(b, make([]byte, 60-len(b))...)
	return binary.LittleEndian.AppendUint32(b, crc32.ChecksumIEEE(b))
}

// sector is what Put must tell.
func sector(r api.Record) []byte { return sealed(213, 2, r) }

// with is r with n as one of its three long numbers: 0 is Seq, 1 is Epoch, 2 is Gen.
func with(r api.Record, which int, n uint64) api.Record {
	*[]*uint64{&r.Seq, &r.Epoch, &r.Gen}[which] = n
	return r
}

func withExtent(r api.Record, extent int) api.Record {
	r.Extent = extent
	return r
}

func withMask(r api.Record, mask byte) api.Record {
	r.Mask = mask
	return r
}

// some are records that may be: least, greatest, and between.
func some() []api.Record {
	return []api.Record{unlike, {Gen: 1, Mask: 1}, {Seq: most, Epoch: most, Extent: 65535, Gen: most, Mask: 255},
		{Seq: 258, Epoch: 3, Extent: 513, Gen: 7, Mask: 0x81}, {Seq: 1, Epoch: 1, Extent: 1, Gen: 2, Mask: 6}}
}

// anyRecord is some record that may be, now and then at the bounds.
func anyRecord(r *rand.Rand) api.Record {
	long := func(least uint64) uint64 {
		return []uint64{least, least + 1, most, most - 1, least + r.Uint64()%most, uint64(1 + r.Intn(300))}[r.Intn(6)]
	}
	extent := []int{0, 1, 65535, 65534, r.Intn(65536), r.Intn(65536)}[r.Intn(6)]
	return api.Record{Seq: long(0), Epoch: long(0), Extent: extent, Gen: long(1), Mask: byte(1 + r.Intn(255))}
}

// tooGreat are numbers above the greatest one.
func tooGreat() []uint64 {
	return []uint64{most + 1, most + 2, most + most/2, 1<<63 - 1, 1 << 63, 1<<63 + 1, 1<<63 + most, math.MaxUint64 - 1, math.MaxUint64}
}

// badExtents are numbers that no record's extent has; some of them would be one's, if but their lowest octets were looked at.
func badExtents() []int {
	return []int{math.MinInt, math.MinInt + 1, math.MinInt + 7, math.MinInt32, -1<<32 + 7, -1 << 17, -65537, -65536, -65535, -65529, -256, -249, -7, -2, -1,
		65536, 65537, 65543, 1 << 17, 1<<31 - 1, 1 << 31, 1 << 32, 1<<32 + 7, math.MaxInt - 65535, math.MaxInt - 1, math.MaxInt}
}

// badRecords are records that may not be, each for one reason alone.
func badRecords(r api.Record) []api.Record {
	var l []api.Record
	for which := range 3 {
		for _, n := range tooGreat() {
			l = append(l, with(r, which, n))
		}
	}
	for _, extent := range badExtents() {
		l = append(l, withExtent(r, extent))
	}
	return append(l, with(r, 2, 0), withMask(r, 0))
}

func put(t testing.TB, r api.Record) []byte {
	t.Helper()
	b, e := Put(r)
	if e != api.OK || len(b) != 64 {
		t.Fatalf("Put(%+v): %x, %d", r, b, e)
	}
	return b
}

func refusesPut(t testing.TB, r api.Record) {
	t.Helper()
	if b, e := Put(r); len(b) != 0 || e != api.ErrArg {
		t.Errorf("Put(%+v): %x, %d", r, b, e)
	}
}

func gets(t testing.TB, b []byte, want api.Record) {
	t.Helper()
	if r, e := Get(b); r != want || e != api.OK {
		t.Errorf("Get(%x): %+v, %d, not %+v", b, r, e, want)
	}
}

func refuses(t testing.TB, b []byte, want api.Errno) {
	t.Helper()
	if r, e := Get(b); r != (api.Record{}) || e != want {
		t.Errorf("Get(%x): %+v, %d, not %d", b, r, e, want)
	}
}

func follows(t testing.TB, r api.Record, seq, epoch uint64, want bool) {
	t.Helper()
	if got := Follows(r, seq, epoch); got != want {
		t.Errorf("Follows(%+v, %d, %d): %t", r, seq, epoch, got)
	}
}

func names(t testing.TB, r api.Record, extent, bit int, want bool) {
	t.Helper()
	if got := Names(r, extent, bit); got != want {
		t.Errorf("Names(%+v, %d, %d): %t", r, extent, bit, got)
	}
}

func TestPutOctets(t *testing.T) { // P13.1: each octet where the chapter lays it, zeros behind
	want := "d502" + "0807060504030231" + "1817161514131221" + "c1c2" + "4241403f3e3d3c3b" + "a5" + "00000000000000000000000000000000000000000000000000000000000000"
	b := put(t, unlike)
	if got := hex.EncodeToString(b[:60]); got != want {
		t.Errorf("Put: %s, not %s", got, want)
	}
	if sum := binary.LittleEndian.Uint32(b[60:]); sum != crc32.ChecksumIEEE(b[:60]) {
		t.Errorf("Put: the sum is %x", sum)
	}
}

func TestPlaces(t *testing.T) { // P13.1: a bit of a field is to be seen where its octet stands, and nowhere else ahead of the sum
	least := api.Record{Gen: 1, Mask: 1}
	var l []api.Record // of each octet from the first one of Seq on a record that is least but in it
	for octet := range 8 {
		l = append(l, with(least, 0, 2<<(8*octet)))
	}
	for octet := range 8 {
		l = append(l, with(least, 1, 2<<(8*octet)))
	}
	l = append(l, withExtent(least, 2), withExtent(least, 2<<8))
	for octet := range 8 {
		l = append(l, with(least, 2, 1^2<<(8*octet)))
	}
	l = append(l, withMask(least, 3))
	for i, r := range l {
		want := put(t, least)
		want[2+i] ^= 2
		if b := put(t, r); !bytes.Equal(b[:60], want[:60]) {
			t.Errorf("Put(%+v): %x, not %x", r, b[:60], want[:60])
		}
	}
}

func TestPutAndGet(t *testing.T) { // P13.1
	l := some()
	r := rand.New(rand.NewSource(131))
	for range 3000 {
		l = append(l, anyRecord(r))
	}
	for _, x := range l {
		want := sector(x)
		if b := put(t, x); !bytes.Equal(b, want) {
			t.Errorf("Put(%+v): %x, not %x", x, b, want)
		}
		gets(t, want, x)
	}
}

func TestBounds(t *testing.T) { // P13.1: each number alone at its bounds
	for _, r := range some() {
		for which := range 3 {
			for _, n := range []uint64{1, 2, 255, 256, 1 << 32, 1<<62 - 1, 1 << 62} {
				x := with(r, which, n)
				b := put(t, x)
				if !bytes.Equal(b, sector(x)) {
					t.Errorf("Put(%+v): %x", x, b)
				}
				gets(t, b, x)
			}
		}
		for which := range 2 { // of Seq and Epoch 0 is one, too
			x := with(r, which, 0)
			gets(t, put(t, x), x)
		}
	}
}

func TestEachExtent(t *testing.T) { // P13.1
	for extent := range 65536 {
		x := withExtent(unlike, extent)
		b := put(t, x)
		if got := int(b[18]) + int(b[19])<<8; got != extent {
			t.Fatalf("Put of extent %d: %d stands there", extent, got)
		}
		gets(t, b, x)
	}
}

func TestEachMask(t *testing.T) { // P13.1: of one bit, of all, of none
	for mask := range 256 {
		for _, r := range some() {
			x := withMask(r, byte(mask))
			if mask == 0 {
				refusesPut(t, x)
				refuses(t, sector(x), api.ErrForm)
				continue
			}
			b := put(t, x)
			if b[28] != byte(mask) {
				t.Errorf("Put of mask %d: %d stands there", mask, b[28])
			}
			gets(t, b, x)
		}
	}
}

func TestPutBeyondBounds(t *testing.T) { // P13.1: each number alone beyond its bounds
	for _, r := range some() {
		for _, x := range badRecords(r) {
			refusesPut(t, x)
		}
	}
	refusesPut(t, api.Record{})
	refusesPut(t, api.Record{Gen: 1})
	refusesPut(t, api.Record{Mask: 1})
	refusesPut(t, api.Record{Seq: math.MaxUint64, Epoch: math.MaxUint64, Extent: math.MaxInt, Gen: math.MaxUint64, Mask: 255})
	refusesPut(t, api.Record{Seq: math.MaxUint64, Epoch: math.MaxUint64, Extent: math.MinInt, Gen: math.MaxUint64})
}

func TestGetBeyondBounds(t *testing.T) { // P13.1: the sum is right, a number is not
	for _, r := range some() {
		for _, x := range badRecords(r) {
			if x.Extent >= 0 && x.Extent <= 65535 { // of another extent there stands the rest modulo 65536
				refuses(t, sector(x), api.ErrForm)
			}
		}
	}
	refuses(t, sector(api.Record{}), api.ErrForm)
	refuses(t, sealed(213, 2, with(unlike, 2, 0), 1), api.ErrForm)
}

func TestGetRest(t *testing.T) { // P13.1: the sum is right, what stands behind the Mask is not
	for _, r := range some() {
		for at := range 31 {
			for bit := range 8 {
				rest := make([]byte, 31)
				rest[at] = 1 << bit
				refuses(t, sealed(213, 2, r, rest...), api.ErrForm)
			}
		}
		refuses(t, sealed(213, 2, r, bytes.Repeat([]byte{255}, 31)...), api.ErrForm)
		gets(t, sealed(213, 2, r, make([]byte, 31)...), r)
	}
}

func TestGetOtherKind(t *testing.T) { // P13.1: a sum that is right, and no page of kind 2
	for _, r := range some() {
		for second := range 256 {
			if second != 2 {
				refuses(t, sealed(213, byte(second), r), api.ErrForm)
			}
		}
		for first := range 256 {
			if first != 213 {
				refuses(t, sealed(byte(first), 2, r), api.ErrForm)
			}
		}
	}
}

func TestGetLength(t *testing.T) { // P13.1: the length is named first, whatever else is wrong
	b := sector(unlike)
	l := [][]byte{nil, {}, b[:0], b[:1], b[:29], b[:60], b[:63], b[1:], append(slices.Clone(b), 0), append([]byte{0}, b...), append(slices.Clone(b), b...), make([]byte, 4096)}
	for n := range 130 {
		if n != 64 {
			l = append(l, make([]byte, n), bytes.Repeat([]byte{255}, n))
		}
		// Their sums are right at their own lengths, and what stands ahead is a record's.
		if n > 0 {
			l = append(l, crc.Seal(append(slices.Clone(b[:60]), make([]byte, n)...)))
		}
		if n < 60 {
			l = append(l, crc.Seal(b[:n]))
		}
	}
	for _, x := range l {
		refuses(t, x, api.ErrShort)
	}
}

func TestGetSum(t *testing.T) { // P13.1: a wrong sum is named ahead of a wrong form
	l := [][]byte{sector(unlike), sealed(213, 1, unlike), sealed(0, 2, unlike), sealed(213, 2, unlike, 1), make([]byte, 64), bytes.Repeat([]byte{255}, 64)}
	for _, x := range badRecords(unlike) {
		l = append(l, sector(x))
	}
	for _, b := range l {
		if binary.LittleEndian.Uint32(b[60:]) == crc32.ChecksumIEEE(b[:60]) {
			b[63] ^= 64
		}
		refuses(t, b, api.ErrSum)
	}
}

func TestFollows(t *testing.T) { // P13.2: the number alone, one below and one above; the epoch equal, below, above
	numbers := []uint64{0, 1, 2, 3, 255, 256, 1<<32 - 1, 1 << 32, 1<<32 + 1, most - 1, most, most + 1, 1<<63 - 1, 1 << 63, math.MaxUint64 - 1, math.MaxUint64}
	for _, seq := range numbers {
		for _, epoch := range numbers {
			r := api.Record{Seq: seq, Epoch: epoch, Extent: 5, Gen: 6, Mask: 7}
			follows(t, r, seq, epoch, true)
			follows(t, r, seq, 0, true)
			follows(t, r, seq-1, epoch, false)
			follows(t, r, seq+1, epoch, false)
			follows(t, r, seq+1<<32, epoch, false)
			for _, asked := range numbers {
				follows(t, r, seq, asked, asked <= epoch)
				follows(t, r, asked, epoch, asked == seq)
				follows(t, r, asked, 0, asked == seq)
			}
			if epoch > 0 {
				follows(t, r, seq, epoch-1, true)
			}
			if epoch < math.MaxUint64 {
				follows(t, r, seq, epoch+1, false)
			}
		}
	}
}

func TestFollowsOther(t *testing.T) { // P13.2: the other fields are not looked at
	for _, r := range append(some(), badRecords(unlike)...) {
		follows(t, r, r.Seq, r.Epoch, true)
		follows(t, r, r.Seq^1, r.Epoch, false)
		follows(t, r, r.Seq, math.MaxUint64, r.Epoch == math.MaxUint64)
	}
	follows(t, api.Record{}, 0, 0, true)
	follows(t, api.Record{}, 0, 1, false)
	follows(t, api.Record{}, 1, 0, false)
	follows(t, api.Record{Seq: 3, Epoch: 4}, 4, 3, false)
}

func TestNamesExample(t *testing.T) { // P13.3
	r := api.Record{Seq: 1, Epoch: 1, Extent: 9, Gen: 2, Mask: 6}
	names(t, r, 9, 0, false)
	names(t, r, 9, 1, true)
	names(t, r, 9, 2, true)
	for bit := 3; bit < 8; bit++ {
		names(t, r, 9, bit, false)
	}
}

// badBits are numbers that no block has in its extent; some of them would be one's, if but their lowest bits were looked at.
func badBits() []int {
	return []int{math.MinInt, math.MinInt + 1, math.MinInt + 7, math.MinInt32, -1 << 32, -256, -64, -63, -16, -9, -8, -7, -2, -1,
		8, 9, 15, 16, 31, 32, 63, 64, 65, 255, 256, 257, 1<<31 - 1, 1 << 31, 1 << 32, 1<<32 + 1, math.MaxInt - 7, math.MaxInt - 1, math.MaxInt}
}

func TestNamesEachMask(t *testing.T) { // P13.3: each of the eight blocks, of that extent and of others
	for mask := range 256 {
		for _, extent := range []int{0, 1, 7, 255, 256, 65534, 65535} {
			r := api.Record{Seq: 3, Epoch: 2, Extent: extent, Gen: 4, Mask: byte(mask)}
			for bit := range 8 {
				names(t, r, extent, bit, mask&(1<<bit) != 0)
				for _, other := range append(badExtents(), 0, 1, 7, 255, 256, 65534, 65535, extent-1, extent+1, extent^256, extent+65536, extent-65536, extent+1<<32, extent+math.MinInt, ^extent, -extent-1) {
					names(t, r, other, bit, other == extent && mask&(1<<bit) != 0)
				}
			}
			for _, bit := range badBits() {
				names(t, r, extent, bit, false)
				names(t, r, extent+1, bit, false)
			}
		}
	}
}

func TestNamesOther(t *testing.T) { // P13.3: of a record that no Put takes, too: its extent and its mask alone are looked at
	for _, r := range append(some(), badRecords(unlike)...) {
		for bit := range 8 {
			names(t, r, r.Extent, bit, r.Mask&(1<<bit) != 0)
			names(t, r, r.Extent^1, bit, false)
		}
		for _, bit := range badBits() {
			names(t, r, r.Extent, bit, false)
		}
	}
	names(t, api.Record{}, 0, 0, false)
}

func TestPutIsGot(t *testing.T) { // P13.4: what is put is got, what is got is put as that sector
	r := rand.New(rand.NewSource(134))
	for range 5000 {
		x := anyRecord(r)
		b := put(t, x)
		gets(t, b, x)
		got, _ := Get(b)
		if again := put(t, got); !bytes.Equal(again, b) {
			t.Errorf("put again: %x, not %x", again, b)
		}
	}
}

func TestAnySector(t *testing.T) { // P13.1, P13.4: octets of all kinds against the words; each that is got is put as that sector
	r := rand.New(rand.NewSource(1340))
	gen := func() uint64 {
		return []uint64{0, 1, 2, most, most + 1, r.Uint64() % most, math.MaxUint64}[r.Intn(7)]
	}
	got := 0
	for range 60000 {
		x := api.Record{Seq: gen(), Epoch: gen(), Extent: r.Intn(65536), Gen: gen(), Mask: byte(r.Intn(4))}
		rest := make([]byte, 31)
		if r.Intn(6) == 0 {
			rest[r.Intn(31)] = byte(r.Intn(256))
		}
		b := sealed([]byte{213, 213, 213, 213, 7}[r.Intn(5)], []byte{2, 2, 2, 2, 2, 3}[r.Intn(6)], x, rest...)
		if r.Intn(9) == 0 {
			b[r.Intn(64)] ^= 1 << r.Intn(8)
		}
		if r.Intn(9) == 0 {
			b = b[:r.Intn(65)]
		}
		want := api.ErrForm
		switch {
		case len(b) != 64:
			want = api.ErrShort
		case binary.LittleEndian.Uint32(b[60:]) != crc32.ChecksumIEEE(b[:60]):
			want = api.ErrSum
		case b[0] == 213 && b[1] == 2 && x.Seq <= most && x.Epoch <= most && x.Gen >= 1 && x.Gen <= most && x.Mask != 0 && bytes.Equal(rest, make([]byte, 31)):
			got++
			gets(t, b, x)
			if again := put(t, x); !bytes.Equal(again, b) {
				t.Errorf("put again: %x, not %x", again, b)
			}
			continue
		}
		refuses(t, b, want)
	}
	if got < 1000 {
		t.Errorf("but %d were records", got)
	}
}

func TestTurnedBits(t *testing.T) { // P13.4: bursts of 1 to 32 bits at each place
	r := rand.New(rand.NewSource(1341))
	for _, x := range []api.Record{unlike, {Gen: 1, Mask: 1}} {
		b := put(t, x)
		for many := 1; many <= 32; many++ {
			ends, all := uint32(1)|1<<(many-1), uint32(1<<many-1)
			for at := 0; at <= 512-many; at++ {
				for _, turn := range []uint32{ends, all, ends | r.Uint32()&all} {
					refuses(t, crc.Turn(b, at, turn), api.ErrSum)
				}
			}
		}
		gets(t, crc.Turn(crc.Turn(b, 77, 0x80000001), 77, 0x80000001), x)
	}
}

func TestTurnedBitsOfAny(t *testing.T) { // P13.4
	r := rand.New(rand.NewSource(1342))
	for range 20000 {
		b := put(t, anyRecord(r))
		refuses(t, crc.Turn(b, r.Intn(481), 1|r.Uint32()), api.ErrSum)
	}
}

func TestMemory(t *testing.T) { // P13.1: nothing handed in is changed or kept, what lies behind is not read, answers are new memory
	first, second := put(t, unlike), put(t, unlike)
	kept := string(second)
	for i := range first {
		first[i] = 'x'
	}
	_ = append(first, "yyyy"...)
	if string(second) != kept {
		t.Errorf("what Put told shares memory: %x", second)
	}
	memory := append(slices.Clone(second), "behind"...)
	before := string(memory)
	got, _ := Get(memory[:64])
	refuses(t, memory[:63], api.ErrShort)
	if string(memory) != before {
		t.Errorf("changed: %q", memory)
	}
	clear(memory)
	if got != unlike {
		t.Errorf("kept: %+v", got)
	}
}

func TestSameAgain(t *testing.T) { // P13.1 to P13.3: what is told hangs on the arguments alone
	want := put(t, unlike)
	Put(api.Record{})
	Put(api.Record{Gen: 1, Mask: 1})
	Get(nil)
	Get(make([]byte, 64))
	Follows(unlike, 9, 9)
	Names(unlike, -1, -1)
	if b := put(t, unlike); !bytes.Equal(b, want) {
		t.Errorf("Put a second time: %x, not %x", b, want)
	}
	gets(t, want, unlike)
}
