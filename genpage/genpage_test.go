package genpage

import (
	"bytes"
	"encoding/binary"
	"encoding/hex"
	"hash/crc32"
	"math"
	"math/rand"
	"slices"
	"testing"

	"springhouse/api"
	"springhouse/crc"
)

const most = uint64(1) << 62

// unlike is a page each of whose numbers has octets that are all unlike.
var unlike = api.GenPage{No: 0x0201, Version: 0x3a0b0c0d0e0f1011, Gens: [6]uint64{
	0x0102030405060708, 0x1112131415161718, 0x2122232425262728, 0x3132333435363738, 0x08070605040302a1, 0x3f3e3d3c3b3a3938}}

// sealed is a sector with these two octets ahead and a sum that is right, laid out without the project's packages, whether the page may be or not.
func sealed(mark, kind byte, p api.GenPage) []byte {
	b := []byte{mark, kind}
	b = binary.LittleEndian.AppendUint16(b, uint16(p.No))
	b = binary.LittleEndian.AppendUint64(b, p.Version)
	for _, gen := range p.Gens {
		b = binary.LittleEndian.AppendUint64(b, gen)
	}
	return binary.LittleEndian.AppendUint32(b, crc32.ChecksumIEEE(b))
}

// sector is what Put must tell.
func sector(p api.GenPage) []byte { return sealed(213, 1, p) }

// sheet is a page of that number and version whose generations are gen and those behind it.
func sheet(no int, version, gen uint64) api.GenPage {
	p := api.GenPage{No: no, Version: version}
	for i := range p.Gens {
		p.Gens[i] = gen + uint64(i)
	}
	return p
}

// with is p with n as one of its seven numbers: 0 is its version, 1 to 6 are its generations.
func with(p api.GenPage, which int, n uint64) api.GenPage {
	if which == 0 {
		p.Version = n
	} else {
		p.Gens[which-1] = n
	}
	return p
}

// anyPage is some page that may be, now and then at the bounds.
func anyPage(r *rand.Rand) api.GenPage {
	p := api.GenPage{No: []int{0, 65535, r.Intn(65536), r.Intn(65536)}[r.Intn(4)]}
	for which := range 7 {
		p = with(p, which, []uint64{1, most, most - 1, 1 + r.Uint64()%most, 1 + r.Uint64()%most}[r.Intn(5)])
	}
	return p
}

// badGens are numbers that are neither a generation nor a version.
func badGens() []uint64 {
	return []uint64{0, most + 1, most + 2, most + most/2, 1<<63 - 1, 1 << 63, 1<<63 + 1, 1<<63 + most, math.MaxUint64 - 1, math.MaxUint64}
}

// badNos are numbers that no page has; some of them would be one's, if but their lowest octets were looked at.
func badNos() []int {
	return []int{math.MinInt, math.MinInt + 1, math.MinInt + 7, math.MinInt32, -1<<32 + 7, -1 << 17, -65537, -65536, -65535, -65529, -256, -249, -7, -2, -1,
		65536, 65537, 65543, 1 << 17, 1<<31 - 1, 1 << 31, 1 << 32, 1<<32 + 7, math.MaxInt - 65535, math.MaxInt - 1, math.MaxInt}
}

func put(t testing.TB, p api.GenPage) []byte {
	t.Helper()
	b, e := Put(p)
	if e != api.OK || len(b) != 64 {
		t.Fatalf("Put(%+v): %x, %d", p, b, e)
	}
	return b
}

func gets(t testing.TB, b []byte, want api.GenPage) {
	t.Helper()
	if p, e := Get(b, want.No); p != want || e != api.OK {
		t.Errorf("Get(%x, %d): %+v, %d, not %+v", b, want.No, p, e, want)
	}
}

func refuses(t testing.TB, b []byte, no int, want api.Errno) {
	t.Helper()
	if p, e := Get(b, no); p != (api.GenPage{}) || e != want {
		t.Errorf("Get(%x, %d): %+v, %d, not %d", b, no, p, e, want)
	}
}

func refusesPut(t testing.TB, p api.GenPage) {
	t.Helper()
	if b, e := Put(p); len(b) != 0 || e != api.ErrArg {
		t.Errorf("Put(%+v): %x, %d", p, b, e)
	}
}

func newer(t testing.TB, a, b []byte, want api.GenPage, which int) {
	t.Helper()
	if p, k, ok := Newer(a, b, want.No); p != want || k != which || !ok {
		t.Errorf("Newer(%x, %x, %d): %+v, %d, %t, not %+v, %d", a, b, want.No, p, k, ok, want, which)
	}
}

func none(t testing.TB, a, b []byte, no int) {
	t.Helper()
	if p, k, ok := Newer(a, b, no); p != (api.GenPage{}) || k != 0 || ok {
		t.Errorf("Newer(%x, %x, %d): %+v, %d, %t, not none", a, b, no, p, k, ok)
	}
}

func TestPutOctets(t *testing.T) { // P11.1: each octet where the chapter lays it
	want := "d501" + "0102" + "11100f0e0d0c0b3a" + "0807060504030201" + "1817161514131211" + "2827262524232221" +
		"3837363534333231" + "a102030405060708" + "38393a3b3c3d3e3f"
	b := put(t, unlike)
	if got := hex.EncodeToString(b[:60]); got != want {
		t.Errorf("Put: %s, not %s", got, want)
	}
	if sum := binary.LittleEndian.Uint32(b[60:]); sum != crc32.ChecksumIEEE(b[:60]) {
		t.Errorf("Put: the sum is %x", sum)
	}
}

func TestPutAndGet(t *testing.T) { // P11.1
	l := []api.GenPage{unlike, Fresh(0), Fresh(7), Fresh(65535), sheet(1, 4, 9), sheet(258, 5, 1), sheet(65280, most, most-5)}
	r := rand.New(rand.NewSource(111))
	for range 2000 {
		l = append(l, anyPage(r))
	}
	for _, p := range l {
		want := sector(p)
		if b := put(t, p); !bytes.Equal(b, want) {
			t.Errorf("Put(%+v): %x, not %x", p, b, want)
		}
		gets(t, want, p)
	}
}

func TestEachNumber(t *testing.T) { // P11.1: No from 0 to 65535
	for no := range 65536 {
		p := sheet(no, 3, 5)
		b := put(t, p)
		if got := int(b[2]) + int(b[3])<<8; got != no {
			t.Fatalf("Put of number %d: %d stands there", no, got)
		}
		gets(t, b, p)
		refuses(t, b, no+1, api.ErrForm)
		refuses(t, b, no-1, api.ErrForm)
		refuses(t, b, no+65536, api.ErrForm)
		refuses(t, b, no-65536, api.ErrForm)
	}
}

func TestPutWrongNumber(t *testing.T) { // P11.1
	for _, no := range badNos() {
		refusesPut(t, Fresh(no))
		refusesPut(t, sheet(no, most, 77))
	}
}

func TestBounds(t *testing.T) { // P11.1: the version and each generation alone, at the bounds
	for _, p := range []api.GenPage{unlike, Fresh(0), sheet(65535, 8, 9)} {
		for which := range 7 {
			for _, n := range []uint64{1, 2, 255, 256, 1 << 32, 1<<62 - 1, 1 << 62} {
				q := with(p, which, n)
				b := put(t, q)
				if !bytes.Equal(b, sector(q)) {
					t.Errorf("Put(%+v): %x", q, b)
				}
				gets(t, b, q)
			}
		}
	}
	all := api.GenPage{No: 65535, Version: most, Gens: [6]uint64{most, most, most, most, most, most}}
	gets(t, put(t, all), all)
}

func TestPutBeyondBounds(t *testing.T) { // P11.1: the version and each generation alone, beyond the bounds
	for _, p := range []api.GenPage{unlike, Fresh(0), sheet(65535, most, most-5)} {
		for which := range 7 {
			for _, n := range badGens() {
				refusesPut(t, with(p, which, n))
			}
		}
	}
	refusesPut(t, api.GenPage{})
	refusesPut(t, api.GenPage{No: -1})
	refusesPut(t, api.GenPage{Version: 1})
	refusesPut(t, api.GenPage{Gens: [6]uint64{1, 1, 1, 1, 1, 1}})
}

func TestGetBeyondBounds(t *testing.T) { // P11.1: the sum is right, a number is not
	for _, p := range []api.GenPage{unlike, Fresh(0), sheet(65535, most, most-5)} {
		for which := range 7 {
			for _, n := range badGens() {
				refuses(t, sector(with(p, which, n)), p.No, api.ErrForm)
			}
		}
	}
	refuses(t, sector(api.GenPage{}), 0, api.ErrForm)
	refuses(t, sector(api.GenPage{No: 9}), 9, api.ErrForm)
	// None that may be, and another number, too.
	refuses(t, sector(with(unlike, 3, 0)), unlike.No+1, api.ErrForm)
}

func TestGetOtherNumber(t *testing.T) { // P11.1
	for _, p := range []api.GenPage{unlike, Fresh(0), Fresh(7), Fresh(256), Fresh(65535)} {
		b := sector(p)
		gets(t, b, p)
		for _, no := range append(badNos(), 0, 1, 6, 7, 8, 255, 256, 257, 1792, 65279, 65534, 65535, p.No+1<<16, p.No-1<<16, p.No+1<<32, p.No+math.MinInt, ^p.No, -p.No-1) {
			if no != p.No {
				refuses(t, b, no, api.ErrForm)
			}
		}
	}
}

func TestGetOtherKind(t *testing.T) { // P11.1: a sum that is right, and no page of kind 1
	for second := range 256 {
		if second != 1 {
			refuses(t, sealed(213, byte(second), unlike), unlike.No, api.ErrForm)
		}
	}
	for first := range 256 {
		if first != 213 {
			refuses(t, sealed(byte(first), 1, unlike), unlike.No, api.ErrForm)
		}
	}
}

// wrongLengths are octets that are no sector, pages cut off or gone on among them.
func wrongLengths() [][]byte {
	b := sector(unlike)
	l := [][]byte{nil, {}, b[:0], b[:1], b[:60], b[:63], b[1:], append(slices.Clone(b), 0), append([]byte{0}, b...), append(slices.Clone(b), b...), make([]byte, 4096)}
	for n := range 130 {
		if n != 64 {
			l = append(l, make([]byte, n), bytes.Repeat([]byte{255}, n))
		}
		// Their sums are right at their own lengths, and what stands ahead is a page's.
		if n > 0 {
			l = append(l, crc.Seal(append(slices.Clone(b[:60]), make([]byte, n)...)))
		}
		if n < 60 {
			l = append(l, crc.Seal(b[:n]))
		}
	}
	return l
}

func TestGetLength(t *testing.T) { // P11.1: the length is named first, whatever else is wrong
	for _, b := range wrongLengths() {
		for _, no := range append(badNos(), 0, unlike.No) {
			refuses(t, b, no, api.ErrShort)
		}
	}
}

func TestGetSum(t *testing.T) { // P11.1: a wrong sum is named ahead of a wrong form
	for _, b := range [][]byte{sector(unlike), sealed(213, 2, unlike), sealed(0, 1, unlike), sector(with(unlike, 0, 0)), sector(with(unlike, 6, most+1)), make([]byte, 64)} {
		c := slices.Clone(b)
		c[63] ^= 64
		for _, no := range append(badNos(), 0, unlike.No, unlike.No+1) {
			refuses(t, c, no, api.ErrSum)
		}
	}
	refuses(t, make([]byte, 64), 0, api.ErrSum)
	refuses(t, bytes.Repeat([]byte{255}, 64), 65535, api.ErrSum)
}

func TestNewerExample(t *testing.T) { // P11.2
	four, five := sheet(3, 4, 10), sheet(3, 5, 20)
	newer(t, put(t, four), put(t, five), five, 1)
	newer(t, put(t, five), put(t, four), five, 0)
}

func TestNewerVersions(t *testing.T) { // P11.2: unlike versions, either way round, whatever the generations
	versions := []uint64{1, 2, 3, 255, 256, 257, 65535, 65536, 1<<31 - 1, 1 << 31, 1<<32 - 1, 1 << 32, 1<<32 + 1, 1 << 61, most - 1, most}
	for _, no := range []int{0, 7, 65535} {
		for i, low := range versions {
			for _, high := range versions[i+1:] {
				for _, gens := range [][2]uint64{{9, 9}, {9, 900}, {900, 9}, {1, most - 5}, {most - 5, 1}} {
					elder, newest := sheet(no, low, gens[0]), sheet(no, high, gens[1])
					newer(t, sector(elder), sector(newest), newest, 1)
					newer(t, sector(newest), sector(elder), newest, 0)
				}
			}
		}
	}
}

func TestNewerSameVersion(t *testing.T) { // P11.2: that of a
	for _, version := range []uint64{1, 2, 1 << 32, most} {
		p := sheet(7, version, 50)
		newer(t, sector(p), sector(p), p, 0)
		for which := 1; which <= 6; which++ {
			for _, gen := range []uint64{1, 2, most} {
				q := with(p, which, gen)
				newer(t, sector(p), sector(q), p, 0)
				newer(t, sector(q), sector(p), q, 0)
			}
		}
	}
}

// notOf are octets that are no sector of a page with p's number; all that can be newer than p is.
func notOf(p api.GenPage) [][]byte {
	newest := with(p, 0, most)
	other := newest
	other.No ^= 1
	far := newest
	far.No ^= 0x100
	l := [][]byte{make([]byte, 64), bytes.Repeat([]byte{255}, 64), sector(other), sector(far), sealed(212, 1, newest), sealed(213, 0, newest), sealed(213, 8, newest), crc.Turn(sector(newest), 99, 1)}
	for kind := byte(2); kind <= 7; kind++ {
		l = append(l, sealed(213, kind, newest))
	}
	for which := range 7 {
		for _, n := range badGens() {
			l = append(l, sector(with(newest, which, n)))
		}
	}
	return append(l, wrongLengths()...)
}

func TestNewerOneIsNone(t *testing.T) { // P11.2: the other one is told, whatever stands in the one that is none
	for _, p := range []api.GenPage{unlike, Fresh(0), sheet(65535, 1, 1), sheet(7, most, most-5)} {
		b := sector(p)
		for _, not := range notOf(p) {
			newer(t, b, not, p, 0)
			newer(t, not, b, p, 1)
		}
	}
}

func TestNewerNone(t *testing.T) { // P11.2
	for _, p := range []api.GenPage{unlike, Fresh(0)} {
		l := notOf(p)
		for i, not := range l {
			none(t, not, l[(i+1)%len(l)], p.No)
			none(t, not, not, p.No)
			none(t, nil, not, p.No)
			none(t, not, nil, p.No)
		}
	}
	none(t, nil, nil, 0)
	none(t, []byte{}, []byte{}, 0)
}

func TestNewerOtherNumber(t *testing.T) { // P11.2: a page with another number beside one with that number
	seven, eight := sheet(7, 4, 10), sheet(8, 5, 20)
	newer(t, sector(seven), sector(eight), seven, 0)
	newer(t, sector(eight), sector(seven), seven, 1)
	newer(t, sector(seven), sector(eight), eight, 1)
	newer(t, sector(eight), sector(seven), eight, 0)
	for _, no := range append(badNos(), 0, 6, 9, 255, 256, 263, 65535) {
		none(t, sector(seven), sector(eight), no)
		none(t, sector(seven), sector(seven), no)
	}
}

func TestFresh(t *testing.T) { // P11.3: of any number, also of one that no page may have
	for _, no := range append(badNos(), 0, 1, 7, 255, 256, 65534, 65535) {
		if p := Fresh(no); p != (api.GenPage{No: no, Version: 1, Gens: [6]uint64{1, 1, 1, 1, 1, 1}}) {
			t.Errorf("Fresh(%d): %+v", no, p)
		}
	}
}

func TestFreshIsPut(t *testing.T) { // P11.3, P11.4
	for _, no := range []int{0, 1, 7, 255, 256, 65535} {
		p := Fresh(no)
		gets(t, put(t, p), p)
		newer(t, put(t, p), put(t, with(p, 0, 2)), with(p, 0, 2), 1)
		newer(t, put(t, p), nil, p, 0)
	}
}

func TestPutIsGot(t *testing.T) { // P11.4
	r := rand.New(rand.NewSource(114))
	for range 5000 {
		p := anyPage(r)
		b := put(t, p)
		gets(t, b, p)
		got, _ := Get(b, p.No)
		if again := put(t, got); !bytes.Equal(again, b) {
			t.Errorf("put again: %x, not %x", again, b)
		}
		newer(t, b, b, p, 0)
	}
}

// bursts are turns that reach over that many bits: the first and the last of them, all, and some.
func bursts(r *rand.Rand, many int) []uint32 {
	ends := uint32(1) | 1<<(many-1)
	all := uint32(1<<many - 1)
	return []uint32{ends, all, ends | r.Uint32()&all}
}

func TestTurnedBits(t *testing.T) { // P11.4: bursts of 1 to 32 bits at each place, in either copy
	r := rand.New(rand.NewSource(1140))
	for _, version := range []uint64{9, 10} {
		p := with(unlike, 0, version)
		q := with(with(p, 0, version+1), 2, 1<<40)
		elder, newest := put(t, p), put(t, q)
		for many := 1; many <= 32; many++ {
			for at := 0; at <= 512-many; at++ {
				for _, turn := range bursts(r, many) {
					hurtElder, hurtNewest := crc.Turn(elder, at, turn), crc.Turn(newest, at, turn)
					refuses(t, hurtElder, p.No, api.ErrSum)
					newer(t, elder, hurtNewest, p, 0)
					newer(t, hurtNewest, elder, p, 1)
					newer(t, hurtElder, newest, q, 1)
					newer(t, newest, hurtElder, q, 0)
				}
			}
		}
	}
}

func TestTurnedBitsInBoth(t *testing.T) { // P11.4: then none is told
	r := rand.New(rand.NewSource(1141))
	for range 20000 {
		p := anyPage(r)
		b := put(t, p)
		many := 1 + r.Intn(32)
		l := bursts(r, many)
		one := crc.Turn(b, r.Intn(513-many), l[r.Intn(3)])
		two := crc.Turn(b, r.Intn(513-many), l[r.Intn(3)])
		none(t, one, two, p.No)
		// The number may have been hurt, too: then nobody else's page is told for it.
		for _, no := range []int{int(one[2]) + int(one[3])<<8, int(two[2]) + int(two[3])<<8} {
			none(t, one, two, no)
		}
	}
}

func TestTurnedTwiceIsWhole(t *testing.T) { // P11.4: the page is told as long as no bit of it is another one
	r := rand.New(rand.NewSource(1142))
	for range 2000 {
		p := anyPage(r)
		b := put(t, p)
		at, turn := r.Intn(481), r.Uint32()|1
		gets(t, crc.Turn(crc.Turn(b, at, turn), at, turn), p)
	}
}

func TestAnySector(t *testing.T) { // P11.1, P11.2: against the words, for octets of all kinds
	r := rand.New(rand.NewSource(1110))
	isOne := func(b []byte, no int) (api.GenPage, bool) {
		if len(b) != 64 || b[0] != 213 || b[1] != 1 || binary.LittleEndian.Uint32(b[60:]) != crc32.ChecksumIEEE(b[:60]) {
			return api.GenPage{}, false
		}
		p := api.GenPage{No: int(binary.LittleEndian.Uint16(b[2:]))}
		right := p.No == no
		for which := range 7 {
			n := binary.LittleEndian.Uint64(b[4+8*which:])
			p = with(p, which, n)
			right = right && n >= 1 && n <= most
		}
		if !right {
			return api.GenPage{}, false
		}
		return p, true
	}
	some := func() []byte {
		p := sheet(r.Intn(2), 1+uint64(r.Intn(3)), 1+uint64(r.Intn(3)))
		if r.Intn(4) == 0 {
			p = with(p, r.Intn(7), badGens()[r.Intn(len(badGens()))])
		}
		b := sealed([]byte{213, 213, 213, 213, 7}[r.Intn(5)], []byte{1, 1, 1, 1, 1, 2}[r.Intn(6)], p)
		if r.Intn(8) == 0 {
			b[r.Intn(64)] ^= 1 << r.Intn(8)
		}
		if r.Intn(8) == 0 {
			b = b[:r.Intn(65)]
		}
		return b
	}
	for range 50000 {
		a, b, no := some(), some(), r.Intn(3)-r.Intn(2)
		p, okA := isOne(a, no)
		q, okB := isOne(b, no)
		if got, e := Get(a, no); got != p || (e == api.OK) != okA {
			t.Errorf("Get(%x, %d): %+v, %d, not %+v", a, no, got, e, p)
		}
		switch {
		case okB && (!okA || q.Version > p.Version):
			newer(t, a, b, q, 1)
		case okA:
			newer(t, a, b, p, 0)
		default:
			none(t, a, b, no)
		}
	}
}

func TestMemory(t *testing.T) { // P11.1, P11.2: nothing handed in is changed or kept, what lies behind is not read, answers are new memory
	first, second := put(t, unlike), put(t, unlike)
	kept := string(second)
	for i := range first {
		first[i] = 'x'
	}
	_ = append(first, "yyyy"...)
	if string(second) != kept {
		t.Errorf("what Put told shares memory: %x", second)
	}

	memory := append(slices.Clone(second), "behind"...)
	other := append(put(t, with(unlike, 0, 5)), "behind"...)
	before, beforeOther := string(memory), string(other)
	got, _ := Get(memory[:64], unlike.No)
	newest, _, _ := Newer(memory[:64], other[:64], unlike.No)
	if string(memory) != before || string(other) != beforeOther {
		t.Errorf("changed: %q, %q", memory, other)
	}
	clear(memory)
	clear(other)
	if got != unlike || newest != unlike {
		t.Errorf("kept: %+v, %+v", got, newest)
	}

	p := unlike
	b := put(t, p)
	p.Gens[3], p.Version = 1, 1
	gets(t, b, unlike)
	fresh := Fresh(7)
	fresh.Gens[0] = 9
	if Fresh(7).Gens[0] != 1 {
		t.Error("what Fresh told shares memory")
	}
}

func TestSameAgain(t *testing.T) { // P11.1 to P11.3: what is told hangs on the arguments alone
	want := put(t, unlike)
	Put(api.GenPage{})
	Put(sheet(9, most, most-5))
	Get(nil, 5)
	Get(make([]byte, 64), 5)
	Newer(want, nil, unlike.No)
	Newer(nil, sector(sheet(unlike.No, most, 1)), unlike.No)
	Fresh(-1)
	if b := put(t, unlike); !bytes.Equal(b, want) {
		t.Errorf("Put a second time: %x, not %x", b, want)
	}
	gets(t, want, unlike)
	newer(t, want, want, unlike, 0)
}
