package head

import (
	"bytes"
	"encoding/binary"
	"encoding/hex"
	"hash/crc32"
	"math"
	"math/rand"
	"slices"
	"testing"

	"springhouse/api"
	"springhouse/crc"
)

const most = uint64(1) << 62

// restAt is where the zeros begin, restLen how many there are ahead of the sum.
const (
	restAt  = 21
	restLen = 39
)

// unlike is a head each of whose numbers has octets that are all unlike.
var unlike = api.Head{Used: true, Lba: 0xc2c1, Gen: 0x3b3c3d3e3f404142, Sum: 0x91a2b3c4, Wear: 0xd5e6f708}

// sealed is a sector with these three octets ahead and a sum that is right, laid out without the project's packages, whether the head may be or not; behind it stands rest, filled up with zeros.
func sealed(mark, kind, used byte, h api.Head, rest ...byte) []byte {
	b := []byte{mark, kind, used}
	b = binary.LittleEndian.AppendUint16(b, uint16(h.Lba))
	b = binary.LittleEndian.AppendUint64(b, h.Gen)
	b = binary.LittleEndian.AppendUint32(b, h.Sum)
	b = binary.LittleEndian.AppendUint32(b, h.Wear)
	b = append(b, rest...)
	b = append(b, make([]byte, 60-len(b))...)
	return binary.LittleEndian.AppendUint32(b, crc32.ChecksumIEEE(b))
}

func usedOctet(h api.Head) byte {
	if h.Used {
		return 1
	}
	return 0
}

// sector is what Put must tell.
func sector(h api.Head) []byte { return sealed(213, 3, usedOctet(h), h) }

func withLba(h api.Head, lba int) api.Head {
	h.Lba = lba
	return h
}

func withGen(h api.Head, gen uint64) api.Head {
	h.Gen = gen
	return h
}

func withSum(h api.Head, sum uint32) api.Head {
	h.Sum = sum
	return h
}

func withWear(h api.Head, wear uint32) api.Head {
	h.Wear = wear
	return h
}

// used are heads that may be, with a block: least, greatest, and between.
func used() []api.Head {
	return []api.Head{unlike, {Used: true, Gen: 1}, {Used: true, Lba: 65535, Gen: most, Sum: math.MaxUint32, Wear: math.MaxUint32},
		{Used: true, Lba: 258, Gen: 3, Sum: 0xcbf43926, Wear: 7}, {Used: true, Lba: 1, Gen: 1, Sum: 1, Wear: 1}}
}

// free are heads that may be, with no block.
func free() []api.Head {
	return []api.Head{{}, {Wear: 1}, {Wear: 0xd5e6f708}, {Wear: math.MaxUint32}}
}

// anyHead is some head that may be, now and then at the bounds.
func anyHead(r *rand.Rand) api.Head {
	short := func() uint32 { return []uint32{0, 1, math.MaxUint32, r.Uint32(), r.Uint32()}[r.Intn(5)] }
	if r.Intn(4) == 0 {
		return api.Head{Wear: short()}
	}
	lba := []int{0, 1, 65534, 65535, r.Intn(65536), r.Intn(65536)}[r.Intn(6)]
	gen := []uint64{1, 2, most, most - 1, 1 + r.Uint64()%most, uint64(1 + r.Intn(300))}[r.Intn(6)]
	return api.Head{Used: true, Lba: lba, Gen: gen, Sum: short(), Wear: short()}
}

// badGens are numbers that no generation is.
func badGens() []uint64 {
	return []uint64{0, most + 1, most + 2, most + most/2, 1<<63 - 1, 1 << 63, 1<<63 + 1, 1<<63 + most, math.MaxUint64 - 1, math.MaxUint64}
}

// badLbas are numbers that no head's block has; some of them would be one's, if but their lowest octets were looked at.
func badLbas() []int {
	return []int{math.MinInt, math.MinInt + 1, math.MinInt + 7, math.MinInt32, -1<<32 + 7, -1 << 17, -65537, -65536, -65535, -65529, -256, -249, -7, -2, -1,
		65536, 65537, 65543, 1 << 17, 1<<31 - 1, 1 << 31, 1 << 32, 1<<32 + 7, math.MaxInt - 65535, math.MaxInt - 1, math.MaxInt}
}

// badHeads are heads that may not be, each for one reason alone.
func badHeads() []api.Head {
	var l []api.Head
	for _, h := range used() {
		for _, gen := range badGens() {
			l = append(l, withGen(h, gen))
		}
		for _, lba := range badLbas() {
			l = append(l, withLba(h, lba))
		}
	}
	for _, h := range free() {
		for _, gen := range append(badGens()[1:], 1, 2, 255, 256, 1<<32, most-1, most) {
			l = append(l, withGen(h, gen))
		}
		for _, lba := range append(badLbas(), 1, 2, 255, 256, 65534, 65535) {
			l = append(l, withLba(h, lba))
		}
		for shift := range 32 {
			l = append(l, withSum(h, 1<<shift), withSum(h, math.MaxUint32>>shift))
		}
	}
	return l
}

func put(t testing.TB, h api.Head) []byte {
	t.Helper()
	b, e := Put(h)
	if e != api.OK || len(b) != 64 {
		t.Fatalf("Put(%+v): %x, %d", h, b, e)
	}
	return b
}

func refusesPut(t testing.TB, h api.Head) {
	t.Helper()
	if b, e := Put(h); len(b) != 0 || e != api.ErrArg {
		t.Errorf("Put(%+v): %x, %d", h, b, e)
	}
}

func gets(t testing.TB, b []byte, want api.Head) {
	t.Helper()
	if h, e := Get(b); h != want || e != api.OK {
		t.Errorf("Get(%x): %+v, %d, not %+v", b, h, e, want)
	}
}

func refuses(t testing.TB, b []byte, want api.Errno) {
	t.Helper()
	if h, e := Get(b); h != (api.Head{}) || e != want {
		t.Errorf("Get(%x): %+v, %d, not %d", b, h, e, want)
	}
}

// goesRound holds both ways between a head and its sector against the layout.
func goesRound(t testing.TB, h api.Head) {
	t.Helper()
	want := sector(h)
	if b := put(t, h); !bytes.Equal(b, want) {
		t.Errorf("Put(%+v): %x, not %x", h, b, want)
	}
	gets(t, want, h)
}

func matches(t testing.TB, h api.Head, lba int, data []byte, want api.Errno) {
	t.Helper()
	if e := Matches(h, lba, data); e != want {
		t.Errorf("Matches(%+v, %d, %x): %d, not %d", h, lba, data, e, want)
	}
}

// octets are that many, from a fixed rule, unlike for another salt.
func octets(n, salt int) []byte {
	b := make([]byte, n)
	for i := range b {
		b[i] = byte(i*i + 3*i + salt)
	}
	return b
}

func TestExample(t *testing.T) { // P15.2, P15.3
	d := octets(64, 1)
	h := Of(7, 2, d, 5)
	matches(t, h, 7, d, api.OK)
	matches(t, h, 8, d, api.ErrNone)
	matches(t, h, 7, octets(64, 2), api.ErrSum)
}

func TestPutOctets(t *testing.T) { // P15.1: each octet where the chapter lays it, zeros behind
	zeros := hex.EncodeToString(make([]byte, restLen))
	for _, c := range []struct {
		h    api.Head
		want string
	}{
		{unlike, "d503" + "01" + "c1c2" + "4241403f3e3d3c3b" + "c4b3a291" + "08f7e6d5"},
		{api.Head{Wear: 0xd5e6f708}, "d503" + "00" + "0000" + "0000000000000000" + "00000000" + "08f7e6d5"},
		{api.Head{}, "d503" + "00" + "0000" + "0000000000000000" + "00000000" + "00000000"},
	} {
		b := put(t, c.h)
		if got := hex.EncodeToString(b[:60]); got != c.want+zeros {
			t.Errorf("Put(%+v): %s, not %s", c.h, got, c.want+zeros)
		}
		if sum := binary.LittleEndian.Uint32(b[60:]); sum != crc32.ChecksumIEEE(b[:60]) {
			t.Errorf("Put(%+v): the sum is %x", c.h, sum)
		}
	}
}

func TestPlaces(t *testing.T) { // P15.1: a bit of a field is to be seen where its octet stands, and nowhere else ahead of the sum
	least := api.Head{Used: true, Gen: 1}
	l := []api.Head{withLba(least, 2), withLba(least, 2<<8)} // of each octet from the first one of Lba on a head that is least but in it
	for octet := range 8 {
		l = append(l, withGen(least, 1^2<<(8*octet)))
	}
	for octet := range 4 {
		l = append(l, withSum(least, 2<<(8*octet)))
	}
	for octet := range 4 {
		l = append(l, withWear(least, 2<<(8*octet)))
	}
	for i, h := range l {
		want := put(t, least)
		want[3+i] ^= 2
		if b := put(t, h); !bytes.Equal(b[:60], want[:60]) {
			t.Errorf("Put(%+v): %x, not %x", h, b[:60], want[:60])
		}
	}
}

func TestPutAndGet(t *testing.T) { // P15.1
	for _, h := range slices.Concat(used(), free()) {
		goesRound(t, h)
	}
	r := rand.New(rand.NewSource(151))
	for range 3000 {
		goesRound(t, anyHead(r))
	}
}

func TestBounds(t *testing.T) { // P15.1: each number alone at its bounds
	for _, h := range used() {
		for _, lba := range []int{0, 1, 255, 256, 65534, 65535} {
			goesRound(t, withLba(h, lba))
		}
		for _, gen := range []uint64{1, 2, 255, 256, 1 << 32, most - 1, most} {
			goesRound(t, withGen(h, gen))
		}
		for shift := range 32 {
			goesRound(t, withSum(h, 1<<shift))
			goesRound(t, withSum(h, math.MaxUint32>>shift))
		}
		goesRound(t, withSum(h, 0))
	}
	for _, h := range slices.Concat(used(), free()) {
		for shift := range 32 {
			goesRound(t, withWear(h, 1<<shift))
			goesRound(t, withWear(h, math.MaxUint32>>shift))
		}
		goesRound(t, withWear(h, 0))
	}
}

func TestEachLba(t *testing.T) { // P15.1
	for lba := range 65536 {
		h := withLba(unlike, lba)
		b := put(t, h)
		if got := int(b[3]) + int(b[4])<<8; got != lba {
			t.Fatalf("Put of block %d: %d stands there", lba, got)
		}
		gets(t, b, h)
	}
}

func TestPutBeyondBounds(t *testing.T) { // P15.1: each number alone beyond its bounds; of one that is not Used each alone that is not 0
	for _, h := range badHeads() {
		refusesPut(t, h)
	}
	refusesPut(t, api.Head{Used: true})
	refusesPut(t, api.Head{Used: true, Sum: 1, Wear: 1})
	refusesPut(t, api.Head{Used: true, Lba: math.MaxInt, Gen: math.MaxUint64, Sum: math.MaxUint32, Wear: math.MaxUint32})
	refusesPut(t, api.Head{Used: true, Lba: math.MinInt})
	for _, h := range used() {
		h.Used = false
		refusesPut(t, h)
	}
	refusesPut(t, api.Head{Lba: math.MinInt, Gen: math.MaxUint64, Sum: math.MaxUint32, Wear: math.MaxUint32})
}

func TestGetBeyondBounds(t *testing.T) { // P15.1: the sum is right, a number is not
	for _, h := range badHeads() {
		if h.Lba >= 0 && h.Lba <= 65535 { // of another block there stands the rest modulo 65536
			refuses(t, sector(h), api.ErrForm)
		}
	}
	refuses(t, sector(api.Head{Used: true}), api.ErrForm)
	for _, h := range used() {
		h.Used = false
		refuses(t, sector(h), api.ErrForm)
	}
	refuses(t, sealed(213, 3, 1, withGen(unlike, 0), 1), api.ErrForm)
}

func TestGetUsedOctet(t *testing.T) { // P15.1: the sum is right, the first octet is neither 0 nor 1
	for octet := 2; octet < 256; octet++ {
		for _, h := range slices.Concat(used(), free()) {
			refuses(t, sealed(213, 3, byte(octet), h), api.ErrForm)
		}
	}
}

func TestGetRest(t *testing.T) { // P15.1: the sum is right, what stands behind the Wear is not
	for _, h := range slices.Concat(used(), free()) {
		for at := range restLen {
			for bit := range 8 {
				rest := make([]byte, restLen)
				rest[at] = 1 << bit
				refuses(t, sealed(213, 3, usedOctet(h), h, rest...), api.ErrForm)
			}
		}
		refuses(t, sealed(213, 3, usedOctet(h), h, bytes.Repeat([]byte{255}, restLen)...), api.ErrForm)
		gets(t, sealed(213, 3, usedOctet(h), h, make([]byte, restLen)...), h)
	}
}

func TestGetOtherKind(t *testing.T) { // P15.1: a sum that is right, and no page of kind 3
	for _, h := range slices.Concat(used(), free()) {
		for octet := range 256 {
			if octet != 3 {
				refuses(t, sealed(213, byte(octet), usedOctet(h), h), api.ErrForm)
			}
			if octet != 213 {
				refuses(t, sealed(byte(octet), 3, usedOctet(h), h), api.ErrForm)
			}
		}
	}
}

func TestGetLength(t *testing.T) { // P15.1: the length is named first, whatever else is wrong
	b := sector(unlike)
	l := [][]byte{nil, {}, b[:0], b[:1], b[:restAt], b[:60], b[:63], b[1:], append(slices.Clone(b), 0), append([]byte{0}, b...), append(slices.Clone(b), b...), make([]byte, 4096)}
	for n := range 130 {
		if n != 64 {
			l = append(l, make([]byte, n), bytes.Repeat([]byte{255}, n))
		}
		// Their sums are right at their own lengths, and what stands ahead is a head's.
		if n > 0 {
			l = append(l, crc.Seal(append(slices.Clone(b[:60]), make([]byte, n)...)))
		}
		if n < 60 {
			l = append(l, crc.Seal(b[:n]))
		}
	}
	for _, x := range l {
		refuses(t, x, api.ErrShort)
	}
}

func TestGetSum(t *testing.T) { // P15.1: a wrong sum is named ahead of a wrong form
	l := [][]byte{sector(unlike), sector(api.Head{}), sealed(213, 1, 1, unlike), sealed(0, 3, 1, unlike), sealed(213, 3, 2, unlike), sealed(213, 3, 1, unlike, 1), make([]byte, 64), bytes.Repeat([]byte{255}, 64)}
	for _, h := range badHeads() {
		l = append(l, sector(h))
	}
	for _, b := range l {
		if binary.LittleEndian.Uint32(b[60:]) == crc32.ChecksumIEEE(b[:60]) {
			b[63] ^= 64
		}
		refuses(t, b, api.ErrSum)
	}
}

func TestOf(t *testing.T) { // P15.2: of any numbers, those of no head that may be among them
	lbas := append(badLbas(), 0, 1, 7, 255, 256, 65534, 65535)
	gens := append(badGens(), 1, 2, 255, 1<<32, most-1, most)
	for _, lba := range lbas {
		for _, gen := range gens {
			for _, wear := range []uint32{0, 1, 5, 1 << 31, math.MaxUint32} {
				d := octets(64, lba)
				want := api.Head{Used: true, Lba: lba, Gen: gen, Sum: crc32.ChecksumIEEE(d), Wear: wear}
				if h := Of(lba, gen, d, wear); h != want {
					t.Errorf("Of(%d, %d, %x, %d): %+v, not %+v", lba, gen, d, wear, h, want)
				}
			}
		}
	}
}

func TestOfData(t *testing.T) { // P15.2: of no data, of a block's, of data of other lengths
	l := [][]byte{nil, {}, {0}, {255}, make([]byte, 64), bytes.Repeat([]byte{255}, 64), []byte("123456789")}
	for n := range 200 {
		l = append(l, octets(n, n))
	}
	l = append(l, octets(4096, 3), octets(70001, 4))
	for _, d := range l {
		want := api.Head{Used: true, Lba: 9, Gen: 8, Sum: crc32.ChecksumIEEE(d), Wear: 7}
		h := Of(9, 8, d, 7)
		if h != want {
			t.Errorf("Of data of %d octets: %+v, not %+v", len(d), h, want)
		}
		goesRound(t, h)
	}
	if h := Of(258, 3, []byte("123456789"), 7); h.Sum != 0xcbf43926 {
		t.Errorf("Of: the sum is %x", h.Sum)
	}
	if h := Of(0, 1, nil, 0); h != (api.Head{Used: true, Gen: 1}) {
		t.Errorf("Of no data: %+v", h)
	}
}

func TestOfIsPut(t *testing.T) { // P15.1, P15.2: what Of tells is put, or not, by its numbers alone
	d := octets(64, 9)
	for _, lba := range []int{-1, 0, 65535, 65536} {
		for _, gen := range []uint64{0, 1, most, most + 1} {
			h := Of(lba, gen, d, 3)
			if lba >= 0 && lba <= 65535 && gen >= 1 && gen <= most {
				goesRound(t, h)
			} else {
				refusesPut(t, h)
			}
		}
	}
}

func TestFree(t *testing.T) { // P15.2: of any wear; it is put, and no block's
	l := []uint32{0}
	for shift := range 32 {
		l = append(l, 1<<shift, math.MaxUint32>>shift)
	}
	for _, wear := range l {
		h := Free(wear)
		if h != (api.Head{Wear: wear}) {
			t.Errorf("Free(%d): %+v", wear, h)
		}
		goesRound(t, h)
		for _, lba := range append(badLbas(), 0, 1, 65535) {
			matches(t, h, lba, nil, api.ErrNone)
			matches(t, h, lba, octets(64, 1), api.ErrNone)
		}
	}
}

func TestMatches(t *testing.T) { // P15.3: that block and that data; another block, other data, both
	lbas := append(badLbas(), 0, 1, 7, 8, 255, 256, 263, 65534, 65535)
	d, other := octets(64, 1), octets(64, 2)
	for _, lba := range lbas {
		h := Of(lba, 2, d, 5)
		for _, asked := range append(lbas, lba^1, lba^256, lba+65536, lba-65536, lba+1<<32, lba+math.MinInt, ^lba, -lba-1) {
			if asked == lba {
				matches(t, h, asked, d, api.OK)
				matches(t, h, asked, other, api.ErrSum)
				continue
			}
			matches(t, h, asked, d, api.ErrNone)
			matches(t, h, asked, other, api.ErrNone)
		}
	}
}

func TestMatchesNotUsed(t *testing.T) { // P15.3: of one that is not Used none, whatever else it tells
	d := octets(64, 1)
	for _, lba := range append(badLbas(), 0, 7, 65535) {
		h := Of(lba, 2, d, 5)
		h.Used = false
		for _, asked := range []int{lba, lba ^ 1} {
			matches(t, h, asked, d, api.ErrNone)
			matches(t, h, asked, octets(64, 2), api.ErrNone)
			matches(t, h, asked, nil, api.ErrNone)
		}
	}
	matches(t, api.Head{}, 0, nil, api.ErrNone)
	matches(t, api.Head{}, 1, nil, api.ErrNone)
}

func TestMatchesData(t *testing.T) { // P15.3: of no data, of data of other lengths; the sum alone is held against it
	d := octets(200, 5)
	for n := range 200 {
		h := Of(3, 4, d[:n], 1)
		for m := range 200 {
			want := api.ErrSum
			if n == m {
				want = api.OK
			}
			matches(t, h, 3, d[:m], want)
			matches(t, h, 4, d[:m], api.ErrNone)
		}
	}
	matches(t, Of(3, 4, nil, 1), 3, []byte{}, api.OK)
	matches(t, Of(3, 4, []byte{}, 1), 3, nil, api.OK)
	matches(t, Of(3, 4, d, 1), 3, nil, api.ErrSum)
	matches(t, Of(3, 4, nil, 1), 3, []byte{0}, api.ErrSum)
	matches(t, api.Head{Used: true, Lba: 3}, 3, nil, api.OK)
	matches(t, api.Head{Used: true, Lba: 3, Sum: 1}, 3, nil, api.ErrSum)
	for shift := range 32 { // each bit of the sum counts
		h := Of(3, 4, d, 1)
		matches(t, withSum(h, h.Sum^1<<shift), 3, d, api.ErrSum)
	}
}

func TestMatchesOther(t *testing.T) { // P15.3: Gen and Wear are not looked at
	d := octets(64, 6)
	for _, gen := range append(badGens(), 1, 2, most) {
		for _, wear := range []uint32{0, 1, math.MaxUint32} {
			h := Of(7, gen, d, wear)
			matches(t, h, 7, d, api.OK)
			matches(t, h, 6, d, api.ErrNone)
			matches(t, h, 7, d[1:], api.ErrSum)
		}
	}
}

func TestPutIsGot(t *testing.T) { // P15.4: what is put is got, what is got is put as that sector
	r := rand.New(rand.NewSource(154))
	for range 5000 {
		h := anyHead(r)
		b := put(t, h)
		gets(t, b, h)
		got, _ := Get(b)
		if again := put(t, got); !bytes.Equal(again, b) {
			t.Errorf("put again: %x, not %x", again, b)
		}
	}
}

// mayBeWords tells by the chapter's words whether a head may be.
func mayBeWords(h api.Head) bool {
	if h.Used {
		return h.Lba >= 0 && h.Lba <= 65535 && h.Gen >= 1 && h.Gen <= most
	}
	return h.Lba == 0 && h.Gen == 0 && h.Sum == 0
}

func TestAnySector(t *testing.T) { // P15.1, P15.4: octets of all kinds against the words; each that is got is put as that sector
	r := rand.New(rand.NewSource(1540))
	gotUsed, gotFree := 0, 0
	for range 60000 {
		first := []byte{0, 0, 1, 1, 1, 2, 255}[r.Intn(7)]
		h := api.Head{Used: first == 1, Wear: r.Uint32()}
		if h.Used || r.Intn(2) == 0 {
			h.Lba = []int{0, 0, r.Intn(65536)}[r.Intn(3)]
			h.Gen = []uint64{0, 1, 2, most, most + 1, r.Uint64() % most, math.MaxUint64}[r.Intn(7)]
			h.Sum = []uint32{0, r.Uint32()}[r.Intn(2)]
		}
		rest := make([]byte, restLen)
		if r.Intn(6) == 0 {
			rest[r.Intn(restLen)] = byte(r.Intn(256))
		}
		b := sealed([]byte{213, 213, 213, 213, 7}[r.Intn(5)], []byte{3, 3, 3, 3, 3, 2}[r.Intn(6)], first, h, rest...)
		if r.Intn(9) == 0 {
			b[r.Intn(64)] ^= 1 << r.Intn(8)
		}
		if r.Intn(9) == 0 {
			b = b[:r.Intn(65)]
		}
		want := api.ErrForm
		switch {
		case len(b) != 64:
			want = api.ErrShort
		case binary.LittleEndian.Uint32(b[60:]) != crc32.ChecksumIEEE(b[:60]):
			want = api.ErrSum
		case b[0] == 213 && b[1] == 3 && first <= 1 && mayBeWords(h) && bytes.Equal(rest, make([]byte, restLen)):
			gets(t, b, h)
			if again := put(t, h); !bytes.Equal(again, b) {
				t.Errorf("put again: %x, not %x", again, b)
			}
			if h.Used {
				gotUsed++
			} else {
				gotFree++
			}
			continue
		}
		refuses(t, b, want)
	}
	if gotUsed < 1000 || gotFree < 1000 {
		t.Errorf("but %d were heads with a block, and %d with none", gotUsed, gotFree)
	}
}

// bursts are turns that reach over that many bits: the first and the last of them, all, and some.
func bursts(r *rand.Rand, many int) []uint32 {
	ends, all := uint32(1)|1<<(many-1), uint32(1<<many-1)
	return []uint32{ends, all, ends | r.Uint32()&all}
}

func TestTurnedBits(t *testing.T) { // P15.4: bursts of 1 to 32 bits at each place of a sector
	r := rand.New(rand.NewSource(1541))
	for _, h := range []api.Head{unlike, {Used: true, Gen: 1}, {}, {Wear: 9}} {
		b := put(t, h)
		for many := 1; many <= 32; many++ {
			for at := 0; at <= 512-many; at++ {
				for _, turn := range bursts(r, many) {
					refuses(t, crc.Turn(b, at, turn), api.ErrSum)
				}
			}
		}
		gets(t, crc.Turn(crc.Turn(b, 77, 0x80000001), 77, 0x80000001), h)
	}
}

func TestTurnedBitsOfAny(t *testing.T) { // P15.4
	r := rand.New(rand.NewSource(1542))
	for range 20000 {
		b := put(t, anyHead(r))
		refuses(t, crc.Turn(b, r.Intn(481), 1|r.Uint32()), api.ErrSum)
	}
}

func TestTurnedData(t *testing.T) { // P15.4: bursts of 1 to 32 bits at each place of a block's data
	r := rand.New(rand.NewSource(1543))
	for _, d := range [][]byte{octets(64, 7), make([]byte, 64), bytes.Repeat([]byte{255}, 64)} {
		h := Of(7, 2, d, 5)
		for many := 1; many <= 32; many++ {
			for at := 0; at <= 512-many; at++ {
				for _, turn := range bursts(r, many) {
					matches(t, h, 7, crc.Turn(d, at, turn), api.ErrSum)
				}
			}
		}
		matches(t, h, 7, crc.Turn(crc.Turn(d, 77, 0x80000001), 77, 0x80000001), api.OK)
	}
}

func TestTurnedDataOfAny(t *testing.T) { // P15.4: of other lengths, too; of another block none is told all the same
	r := rand.New(rand.NewSource(1544))
	for range 20000 {
		d := make([]byte, 4+r.Intn(200))
		r.Read(d)
		hurt := crc.Turn(d, r.Intn(8*len(d)-31), 1|r.Uint32())
		lba := r.Intn(65536)
		h := Of(lba, 1+r.Uint64()%most, d, r.Uint32())
		matches(t, h, lba, d, api.OK)
		matches(t, h, lba, hurt, api.ErrSum)
		matches(t, h, lba^1, hurt, api.ErrNone)
	}
}

func TestMemory(t *testing.T) { // P15.1 to P15.3: nothing handed in is changed or kept, what lies behind is not read, answers are new memory
	first, second := put(t, unlike), put(t, unlike)
	kept := string(second)
	for i := range first {
		first[i] = 'x'
	}
	_ = append(first, "yyyy"...)
	if string(second) != kept {
		t.Errorf("what Put told shares memory: %x", second)
	}

	memory := append(slices.Clone(second), "behind"...)
	data := append(octets(64, 3), "behind"...)
	before, dataBefore := string(memory), string(data)
	got, _ := Get(memory[:64])
	refuses(t, memory[:63], api.ErrShort)
	h := Of(7, 2, data[:64], 5)
	matches(t, h, 7, data[:64], api.OK)
	matches(t, h, 7, data, api.ErrSum)
	if string(memory) != before || string(data) != dataBefore {
		t.Errorf("changed: %q, %q", memory, data)
	}
	clear(memory)
	clear(data)
	if got != unlike || h.Sum != crc32.ChecksumIEEE(octets(64, 3)) {
		t.Errorf("kept: %+v, %+v", got, h)
	}
}

func TestSameAgain(t *testing.T) { // P15.1 to P15.3: what is told hangs on the arguments alone
	want := put(t, unlike)
	d := octets(64, 8)
	h := Of(7, 2, d, 5)
	Put(api.Head{Lba: 1})
	Put(Free(8))
	Get(nil)
	Get(make([]byte, 64))
	Of(-1, 0, nil, 9)
	Matches(h, 8, nil)
	Matches(Free(8), 7, d)
	if b := put(t, unlike); !bytes.Equal(b, want) {
		t.Errorf("Put a second time: %x, not %x", b, want)
	}
	gets(t, want, unlike)
	if again := Of(7, 2, d, 5); again != h {
		t.Errorf("Of a second time: %+v, not %+v", again, h)
	}
	matches(t, h, 7, d, api.OK)
	if Free(8) != (api.Head{Wear: 8}) {
		t.Errorf("Free a second time: %+v", Free(8))
	}
}
