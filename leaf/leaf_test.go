package leaf

import (
	"bytes"
	"encoding/binary"
	"encoding/hex"
	"hash/crc32"
	"math"
	"math/rand"
	"slices"
	"testing"

	"springhouse/api"
	"springhouse/crc"
)

const most = uint64(1) << 62

// Kinds of the pages.
const (
	ofLeaf   = 4
	ofCommit = 5
)

// leafRest and commitRest tell where zeros begin, restEnd where they end.
func leafRest(l api.Leaf) int { return 13 + 14*len(l.Entries) }

const (
	commitRest = 20
	restEnd    = 60
)

// unlike has numbers whose octets are all unlike, and all entries.
var unlike = api.Leaf{No: 0xc2c1, Snap: 0x3b3c3d3e3f404142, Entries: []api.Entry{
	{Slot: 3 * 0xc2c1, Lba: 0x1112, Tag: 0x2122232425262728},
	{Slot: 3*0xc2c1 + 1, Lba: 0x5152, Tag: 0x0102030405060708},
	{Slot: 3*0xc2c1 + 2, Lba: 0xf1f2, Tag: 0x3132333435363738},
}}

var unlikeCommit = api.Commit{Snap: 0x3b3c3d3e3f404142, Leaves: 0xc2c1, From: 0x2122232425262728}

// closed is a sector with these octets ahead, filled up with zeros, and a sum that is right.
func closed(b []byte) []byte {
	b = append(slices.Clone(b), make([]byte, restEnd-len(b))...)
	return binary.LittleEndian.AppendUint32(b, crc32.ChecksumIEEE(b))
}

// rawLeaf lays a leaf out without the project's packages, whether it may be or not; count stands where it tells how many entries there are.
func rawLeaf(l api.Leaf, count int) []byte {
	b := []byte{213, ofLeaf}
	b = binary.LittleEndian.AppendUint16(b, uint16(l.No))
	b = binary.LittleEndian.AppendUint64(b, l.Snap)
	b = append(b, byte(count))
	for _, e := range l.Entries {
		b = binary.LittleEndian.AppendUint32(b, uint32(e.Slot))
		b = binary.LittleEndian.AppendUint16(b, uint16(e.Lba))
		b = binary.LittleEndian.AppendUint64(b, e.Tag)
	}
	return b
}

func rawCommit(c api.Commit) []byte {
	b := []byte{213, ofCommit}
	b = binary.LittleEndian.AppendUint64(b, c.Snap)
	b = binary.LittleEndian.AppendUint16(b, uint16(c.Leaves))
	return binary.LittleEndian.AppendUint64(b, c.From)
}

// sector is what Put must tell.
func sector(l api.Leaf) []byte { return closed(rawLeaf(l, len(l.Entries))) }

// commitSector is what Seal must tell.
func commitSector(c api.Commit) []byte { return closed(rawCommit(c)) }

// altered is l, with entries of its own, behind change.
func altered(l api.Leaf, change func(*api.Leaf)) api.Leaf {
	l.Entries = slices.Clone(l.Entries)
	change(&l)
	return l
}

// leafOf is a leaf with entries for these of its slots, counted from its first one.
func leafOf(no int, snap uint64, slots ...int) api.Leaf {
	l := api.Leaf{No: no, Snap: snap}
	for i, s := range slots {
		l.Entries = append(l.Entries, api.Entry{Slot: 3*no + s, Lba: 7 + i, Tag: 9 + uint64(i)})
	}
	return l
}

// choices are the entries that a leaf may have, by which of its slots they are.
func choices() [][]int {
	return [][]int{nil, {0}, {1}, {2}, {0, 1}, {0, 2}, {1, 2}, {0, 1, 2}}
}

// leaves are leaves that may be: least, greatest, and between, of each choice of entries.
func leaves() []api.Leaf {
	l := []api.Leaf{unlike}
	for _, c := range choices() {
		l = append(l, leafOf(0, 1, c...), leafOf(2, 5, c...), leafOf(65535, most, c...))
	}
	return l
}

func commits() []api.Commit {
	return []api.Commit{unlikeCommit, {Snap: 1}, {Snap: most, Leaves: 65535, From: most}, {Snap: 3, Leaves: 513, From: 7}, {Snap: 1, Leaves: 1, From: 1}}
}

// goodGens are numbers that a snapshot and a tag may have, badGens such as they may not.
func goodGens() []uint64 { return []uint64{1, 2, 255, 256, 1 << 32, 1 << 61, most - 1, most} }

func badGens() []uint64 {
	return []uint64{0, most + 1, most + 2, most + most/2, 1<<63 - 1, 1 << 63, 1<<63 + 1, 1<<63 + most, math.MaxUint64 - 1, math.MaxUint64}
}

// goodShorts are numbers that fit in two octets, badShorts such as do not; some of them would, if but their lowest octets were looked at.
func goodShorts() []int { return []int{0, 1, 2, 255, 256, 32767, 32768, 65534, 65535} }

func badShorts() []int {
	return []int{math.MinInt, math.MinInt + 1, math.MinInt + 7, math.MinInt32, -1<<32 + 7, -1 << 17, -65537, -65536, -65535, -256, -7, -2, -1,
		65536, 65537, 65543, 1 << 17, 1<<31 - 1, 1 << 31, 1 << 32, 1<<32 + 7, math.MaxInt/3 - 1, math.MaxInt / 3, math.MaxInt/3 + 1, math.MaxInt - 65535, math.MaxInt - 1, math.MaxInt}
}

// anyGen and anyShort are some, now and then at the bounds.
func anyGen(r *rand.Rand) uint64 {
	return []uint64{1, 2, most, most - 1, 1 + r.Uint64()%most, uint64(1 + r.Intn(300))}[r.Intn(6)]
}

func anyShort(r *rand.Rand) int {
	return []int{0, 1, 65534, 65535, r.Intn(65536), r.Intn(65536)}[r.Intn(6)]
}

// anyLeaf is some leaf that may be.
func anyLeaf(r *rand.Rand) api.Leaf {
	l := api.Leaf{No: anyShort(r), Snap: anyGen(r)}
	for i := range 3 {
		if r.Intn(2) == 0 {
			l.Entries = append(l.Entries, api.Entry{Slot: 3*l.No + i, Lba: anyShort(r), Tag: anyGen(r)})
		}
	}
	return l
}

func anyCommit(r *rand.Rand) api.Commit {
	return api.Commit{Snap: anyGen(r), Leaves: anyShort(r), From: []uint64{0, anyGen(r)}[r.Intn(2)]}
}

// sameWords tells by the chapter's words whether two leaves are the same.
func sameWords(a, b api.Leaf) bool {
	if a.No != b.No || a.Snap != b.Snap || len(a.Entries) != len(b.Entries) {
		return false
	}
	for i, e := range a.Entries {
		if e.Slot != b.Entries[i].Slot || e.Lba != b.Entries[i].Lba || e.Tag != b.Entries[i].Tag {
			return false
		}
	}
	return true
}

func put(t testing.TB, l api.Leaf) []byte {
	t.Helper()
	b, e := Put(l)
	if e != api.OK || len(b) != 64 {
		t.Fatalf("Put(%+v): %x, %d", l, b, e)
	}
	return b
}

func refusesPut(t testing.TB, l api.Leaf) {
	t.Helper()
	if b, e := Put(l); len(b) != 0 || e != api.ErrArg {
		t.Errorf("Put(%+v): %x, %d", l, b, e)
	}
}

func gets(t testing.TB, b []byte, want api.Leaf) {
	t.Helper()
	if l, e := Get(b, want.No, want.Snap); !sameWords(l, want) || e != api.OK {
		t.Errorf("Get(%x, %d, %d): %+v, %d, not %+v", b, want.No, want.Snap, l, e, want)
	}
}

func refuses(t testing.TB, b []byte, no int, snap uint64, want api.Errno) {
	t.Helper()
	if l, e := Get(b, no, snap); !sameWords(l, api.Leaf{}) || e != want {
		t.Errorf("Get(%x, %d, %d): %+v, %d, not %d", b, no, snap, l, e, want)
	}
}

// goesRound holds both ways between a leaf and its sector against the layout.
func goesRound(t testing.TB, l api.Leaf) {
	t.Helper()
	want := sector(l)
	if b := put(t, l); !bytes.Equal(b, want) {
		t.Errorf("Put(%+v): %x, not %x", l, b, want)
	}
	gets(t, want, l)
}

func seal(t testing.TB, c api.Commit) []byte {
	t.Helper()
	b, e := Seal(c)
	if e != api.OK || len(b) != 64 {
		t.Fatalf("Seal(%+v): %x, %d", c, b, e)
	}
	return b
}

func refusesSeal(t testing.TB, c api.Commit) {
	t.Helper()
	if b, e := Seal(c); len(b) != 0 || e != api.ErrArg {
		t.Errorf("Seal(%+v): %x, %d", c, b, e)
	}
}

func opens(t testing.TB, b []byte, want api.Commit) {
	t.Helper()
	if c, e := Open(b); c != want || e != api.OK {
		t.Errorf("Open(%x): %+v, %d, not %+v", b, c, e, want)
	}
}

func refusesOpen(t testing.TB, b []byte, want api.Errno) {
	t.Helper()
	if c, e := Open(b); c != (api.Commit{}) || e != want {
		t.Errorf("Open(%x): %+v, %d, not %d", b, c, e, want)
	}
}

// sealsRound holds both ways between a commit and its sector against the layout.
func sealsRound(t testing.TB, c api.Commit) {
	t.Helper()
	want := commitSector(c)
	if b := seal(t, c); !bytes.Equal(b, want) {
		t.Errorf("Seal(%+v): %x, not %x", c, b, want)
	}
	opens(t, want, c)
}

func TestExample(t *testing.T) { // P17.1, P17.3: the leaf 2 tells of the slots 6, 7 and 8
	for slot := 6; slot <= 8; slot++ {
		if no := Of(slot); no != 2 {
			t.Errorf("Of(%d): %d", slot, no)
		}
		goesRound(t, api.Leaf{No: 2, Snap: 1, Entries: []api.Entry{{Slot: slot, Lba: 5, Tag: 1}}})
	}
	goesRound(t, leafOf(2, 1, 0, 1, 2))
	for _, slot := range []int{5, 9} {
		if no := Of(slot); no == 2 {
			t.Errorf("Of(%d): %d", slot, no)
		}
		refusesPut(t, api.Leaf{No: 2, Snap: 1, Entries: []api.Entry{{Slot: slot, Lba: 5, Tag: 1}}})
	}
}

func TestPutOctets(t *testing.T) { // P17.1: each octet where the chapter lays it, zeros behind
	front := "d504" + "c1c2" + "4241403f3e3d3c3b"
	rows := []string{"43480200" + "1211" + "2827262524232221", "44480200" + "5251" + "0807060504030201", "45480200" + "f2f1" + "3837363534333231"}
	for n, count := range []string{"00", "01", "02", "03"} {
		l := altered(unlike, func(l *api.Leaf) { l.Entries = l.Entries[:n] })
		want := front + count
		for _, row := range rows[:n] {
			want += row
		}
		want += hex.EncodeToString(make([]byte, restEnd-leafRest(l)))
		b := put(t, l)
		if got := hex.EncodeToString(b[:60]); got != want {
			t.Errorf("Put(%+v): %s, not %s", l, got, want)
		}
		if sum := binary.LittleEndian.Uint32(b[60:]); sum != crc32.ChecksumIEEE(b[:60]) {
			t.Errorf("Put(%+v): the sum is %x", l, sum)
		}
	}
}

func TestSealOctets(t *testing.T) { // P17.2: each octet where the chapter lays it, zeros behind
	b := seal(t, unlikeCommit)
	want := "d505" + "4241403f3e3d3c3b" + "c1c2" + "2827262524232221" + hex.EncodeToString(make([]byte, restEnd-commitRest))
	if got := hex.EncodeToString(b[:60]); got != want {
		t.Errorf("Seal: %s, not %s", got, want)
	}
	if sum := binary.LittleEndian.Uint32(b[60:]); sum != crc32.ChecksumIEEE(b[:60]) {
		t.Errorf("Seal: the sum is %x", sum)
	}
}

func TestPlaces(t *testing.T) { // P17.1, P17.2: a bit of a field is to be seen where its octet stands, and nowhere else ahead of the sum
	least := leafOf(0, 1, 0)
	least.Entries[0] = api.Entry{Tag: 1}
	for octet := range 8 {
		want := put(t, least)
		want[4+octet] ^= 2
		if b := put(t, altered(least, func(l *api.Leaf) { l.Snap ^= 2 << (8 * octet) })); !bytes.Equal(b[:60], want[:60]) {
			t.Errorf("octet %d of Snap: %x, not %x", octet, b[:60], want[:60])
		}
		want = put(t, least)
		want[19+octet] ^= 2
		if b := put(t, altered(least, func(l *api.Leaf) { l.Entries[0].Tag ^= 2 << (8 * octet) })); !bytes.Equal(b[:60], want[:60]) {
			t.Errorf("octet %d of Tag: %x, not %x", octet, b[:60], want[:60])
		}
		c := seal(t, api.Commit{Snap: 1})
		c[2+octet] ^= 2
		if b := seal(t, api.Commit{Snap: 1 ^ 2<<(8*octet)}); !bytes.Equal(b[:60], c[:60]) {
			t.Errorf("octet %d of a commit's Snap: %x, not %x", octet, b[:60], c[:60])
		}
		c = seal(t, api.Commit{Snap: 1})
		c[12+octet] ^= 2
		if b := seal(t, api.Commit{Snap: 1, From: 2 << (8 * octet)}); !bytes.Equal(b[:60], c[:60]) {
			t.Errorf("octet %d of From: %x, not %x", octet, b[:60], c[:60])
		}
	}
	for octet := range 2 {
		want := put(t, least)
		want[17+octet] ^= 2
		if b := put(t, altered(least, func(l *api.Leaf) { l.Entries[0].Lba ^= 2 << (8 * octet) })); !bytes.Equal(b[:60], want[:60]) {
			t.Errorf("octet %d of Lba: %x, not %x", octet, b[:60], want[:60])
		}
		c := seal(t, api.Commit{Snap: 1})
		c[10+octet] ^= 2
		if b := seal(t, api.Commit{Snap: 1, Leaves: 2 << (8 * octet)}); !bytes.Equal(b[:60], c[:60]) {
			t.Errorf("octet %d of Leaves: %x, not %x", octet, b[:60], c[:60])
		}
	}
}

func TestPutAndGet(t *testing.T) { // P17.1
	for _, l := range leaves() {
		goesRound(t, l)
	}
	r := rand.New(rand.NewSource(171))
	for range 3000 {
		goesRound(t, anyLeaf(r))
	}
}

func TestBounds(t *testing.T) { // P17.1: each number alone at its bounds
	for _, l := range leaves() {
		for _, snap := range goodGens() {
			goesRound(t, altered(l, func(l *api.Leaf) { l.Snap = snap }))
		}
		for i := range l.Entries {
			for _, lba := range goodShorts() {
				goesRound(t, altered(l, func(l *api.Leaf) { l.Entries[i].Lba = lba }))
			}
			for _, tag := range goodGens() {
				goesRound(t, altered(l, func(l *api.Leaf) { l.Entries[i].Tag = tag }))
			}
		}
	}
	for _, no := range goodShorts() {
		for _, c := range choices() {
			goesRound(t, leafOf(no, 5, c...))
		}
	}
	// Of two entries a block may be the same one, and tags need not rise.
	goesRound(t, api.Leaf{Snap: 1, Entries: []api.Entry{{Slot: 0, Lba: 9, Tag: 3}, {Slot: 1, Lba: 9, Tag: 3}, {Slot: 2, Lba: 8, Tag: 1}}})
}

func TestEachNo(t *testing.T) { // P17.1, P17.3
	for no := range 65536 {
		l := leafOf(no, 1, no%3)
		b := put(t, l)
		if got := int(b[2]) + int(b[3])<<8; got != no {
			t.Fatalf("Put of leaf %d: %d stands there", no, got)
		}
		gets(t, b, l)
		if got := Of(l.Entries[0].Slot); got != no {
			t.Fatalf("Of(%d): %d, not %d", l.Entries[0].Slot, got, no)
		}
	}
}

func TestPutBeyondBounds(t *testing.T) { // P17.1: each number alone beyond its bounds
	for _, l := range leaves() {
		for _, snap := range badGens() {
			refusesPut(t, altered(l, func(l *api.Leaf) { l.Snap = snap }))
		}
		for i := range l.Entries {
			for _, lba := range badShorts() {
				refusesPut(t, altered(l, func(l *api.Leaf) { l.Entries[i].Lba = lba }))
			}
			for _, tag := range badGens() {
				refusesPut(t, altered(l, func(l *api.Leaf) { l.Entries[i].Tag = tag }))
			}
			for _, no := range badShorts() {
				refusesPut(t, altered(l, func(l *api.Leaf) { l.No = no }))
			}
		}
	}
	for _, no := range badShorts() {
		for _, c := range choices() {
			refusesPut(t, leafOf(no, 5, c...)) // their Slots are the leaf's, where no sum wraps round
		}
	}
	refusesPut(t, api.Leaf{})
	refusesPut(t, api.Leaf{No: math.MaxInt, Snap: math.MaxUint64, Entries: []api.Entry{{Slot: math.MaxInt, Lba: math.MaxInt, Tag: math.MaxUint64}}})
	refusesPut(t, api.Leaf{No: math.MinInt, Entries: []api.Entry{{Slot: math.MinInt, Lba: math.MinInt}}})
}

// badSlots are rows of slots, counted from the leaf's first one, that no leaf has.
func badSlots() [][]int {
	return [][]int{{-1}, {3}, {4}, {-2}, {-3}, {-1, 0}, {-1, 1, 2}, {0, 3}, {2, 3}, {0, 1, 3}, {-1, 0, 1}, {1, 2, 3}, {3, 4, 5},
		{0, 0}, {1, 1}, {2, 2}, {0, 0, 1}, {0, 1, 1}, {0, 2, 2}, {2, 2, 2}, {1, 0}, {2, 0}, {2, 1}, {0, 2, 1}, {1, 0, 2}, {2, 1, 0}, {1, 2, 0}, {0, 1, 0},
		{65536}, {1 << 32}, {0, 1<<32 + 1}, {0, 1, 1<<32 + 2}, {-1 << 32}, {math.MinInt}, {math.MinInt32}, {0, math.MaxInt - 3*65535}}
}

func TestSlots(t *testing.T) { // P17.1: Slots of another leaf, the same twice, falling
	for _, no := range []int{0, 1, 2, 255, 21845, 65534, 65535} {
		for _, c := range badSlots() {
			refusesPut(t, leafOf(no, 5, c...))
		}
		for _, slot := range []int{math.MinInt, math.MinInt + 1, math.MaxInt - 1, math.MaxInt, -1} {
			for _, c := range choices() {
				for i := range c {
					refusesPut(t, altered(leafOf(no, 5, c...), func(l *api.Leaf) { l.Entries[i].Slot = slot }))
				}
			}
		}
		for _, c := range choices() {
			goesRound(t, leafOf(no, 5, c...))
		}
	}
}

func TestTooMany(t *testing.T) { // P17.1: more entries than there is room for
	for _, c := range [][]int{{0, 1, 2, 2}, {0, 1, 2, 3}, {0, 1, 2, 0}, {0, 0, 1, 2}, {3, 4, 5, 6}, {0, 1, 2, 3, 4}} {
		refusesPut(t, leafOf(2, 5, c...))
	}
	l := leafOf(2, 5, 0, 1, 2)
	for range 300 { // as many as make 3 modulo 256, too
		l.Entries = append(l.Entries, api.Entry{Slot: 8, Lba: 1, Tag: 1})
		refusesPut(t, l)
	}
}

func TestGetOther(t *testing.T) { // P17.1: of another number, of another snapshot, of both
	for _, l := range leaves() {
		b := put(t, l)
		for _, no := range append(badShorts(), goodShorts()...) {
			if no != l.No {
				refuses(t, b, no, l.Snap, api.ErrForm)
				refuses(t, b, no, l.Snap+1, api.ErrForm)
			}
		}
		for _, no := range []int{l.No ^ 1, l.No ^ 1<<8, l.No ^ 1<<15, l.No + 65536, l.No - 65536, l.No + 1<<32, l.No + math.MinInt, ^l.No} {
			refuses(t, b, no, l.Snap, api.ErrForm)
		}
		for _, snap := range append(badGens(), goodGens()...) {
			if snap != l.Snap {
				refuses(t, b, l.No, snap, api.ErrForm)
			}
		}
		for bit := range 64 {
			refuses(t, b, l.No, l.Snap^1<<bit, api.ErrForm)
		}
		gets(t, b, l)
	}
}

// refusesLeaf asks for the leaf by the numbers that stand there, and by others.
func refusesLeaf(t testing.TB, b []byte, l api.Leaf) {
	t.Helper()
	refuses(t, b, l.No, l.Snap, api.ErrForm)
	refuses(t, b, 0, 1, api.ErrForm)
	refuses(t, b, 2, 5, api.ErrForm)
}

func TestGetBeyondBounds(t *testing.T) { // P17.1: the sum is right, a number is not
	for _, l := range leaves()[1:] {
		for _, snap := range badGens() {
			x := altered(l, func(l *api.Leaf) { l.Snap = snap })
			refuses(t, sector(x), x.No, x.Snap, api.ErrForm)
		}
		for i := range l.Entries {
			for _, tag := range badGens() {
				x := altered(l, func(l *api.Leaf) { l.Entries[i].Tag = tag })
				refuses(t, sector(x), x.No, x.Snap, api.ErrForm)
			}
		}
	}
	for _, no := range []int{0, 1, 2, 255, 21845, 65534, 65535} {
		for _, c := range badSlots() {
			for _, s := range c {
				if s > 1<<17 || s < -3 { // of these others stand there, modulo 2^32
					c = nil
				}
			}
			if c != nil {
				l := leafOf(no, 5, c...)
				refuses(t, sector(l), l.No, l.Snap, api.ErrForm)
			}
		}
	}
	// The entries are those of leaf 3, the number is that of leaf 2.
	x := leafOf(3, 5, 0, 1, 2)
	x.No = 2
	refusesLeaf(t, sector(x), x)
}

func TestGetCount(t *testing.T) { // P17.1: the sum is right, how many entries there are is not
	for _, l := range leaves() {
		for count := range 256 {
			b := closed(rawLeaf(l, count))
			if count == len(l.Entries) {
				gets(t, b, l)
			} else {
				refuses(t, b, l.No, l.Snap, api.ErrForm)
			}
		}
	}
	// Of fewer entries, zeros behind: what stands there is no entry, since its Tag is 0.
	refuses(t, closed(rawLeaf(leafOf(0, 1), 1)), 0, 1, api.ErrForm)
	// Four entries have no room; of the fourth as much as there is, here.
	for count := 4; count < 256; count++ {
		b := rawLeaf(leafOf(2, 5, 0, 1, 2), count)
		refuses(t, closed(append(b, 9, 0, 0, 0, 1)), 2, 5, api.ErrForm)
	}
}

func TestGetRest(t *testing.T) { // P17.1: the sum is right, what stands behind the last entry is not
	for _, l := range leaves() {
		raw := rawLeaf(l, len(l.Entries))
		for at := leafRest(l); at < restEnd; at++ {
			for bit := range 8 {
				b := append(slices.Clone(raw), make([]byte, at-len(raw)+1)...)
				b[at] = 1 << bit
				refuses(t, closed(b), l.No, l.Snap, api.ErrForm)
			}
		}
		refuses(t, closed(append(slices.Clone(raw), bytes.Repeat([]byte{255}, restEnd-len(raw))...)), l.No, l.Snap, api.ErrForm)
		// What stands behind is an entry that may be, but it is not counted.
		if n := len(l.Entries); n > 0 {
			refuses(t, closed(rawLeaf(l, n-1)), l.No, l.Snap, api.ErrForm)
		}
	}
}

func TestOpenRest(t *testing.T) { // P17.2: the sum is right, what stands behind From is not
	for _, c := range commits() {
		raw := rawCommit(c)
		for at := commitRest; at < restEnd; at++ {
			for bit := range 8 {
				b := append(slices.Clone(raw), make([]byte, at-len(raw)+1)...)
				b[at] = 1 << bit
				refusesOpen(t, closed(b), api.ErrForm)
			}
		}
		refusesOpen(t, closed(append(slices.Clone(raw), bytes.Repeat([]byte{255}, restEnd-len(raw))...)), api.ErrForm)
		opens(t, closed(raw), c)
	}
}

func TestOtherKind(t *testing.T) { // P17.1, P17.2: a sum that is right, and no page of their kind
	for octet := range 256 {
		for _, l := range leaves() {
			raw := rawLeaf(l, len(l.Entries))
			raw[1] = byte(octet)
			if octet != ofLeaf {
				refuses(t, closed(raw), l.No, l.Snap, api.ErrForm)
			}
			raw[0], raw[1] = byte(octet), ofLeaf
			if octet != 213 {
				refuses(t, closed(raw), l.No, l.Snap, api.ErrForm)
			}
		}
		for _, c := range commits() {
			raw := rawCommit(c)
			raw[1] = byte(octet)
			if octet != ofCommit {
				refusesOpen(t, closed(raw), api.ErrForm)
			}
			raw[0], raw[1] = byte(octet), ofCommit
			if octet != 213 {
				refusesOpen(t, closed(raw), api.ErrForm)
			}
		}
	}
	for _, l := range leaves() {
		refusesOpen(t, sector(l), api.ErrForm)
	}
	for _, c := range commits() {
		b := commitSector(c)
		refuses(t, b, int(c.Snap&0xffff), c.Snap>>16, api.ErrForm)
		refuses(t, b, 0, 1, api.ErrForm)
	}
}

func TestLength(t *testing.T) { // P17.1, P17.2: the length is named first, whatever else is wrong
	for _, b := range [][]byte{sector(unlike), commitSector(unlikeCommit)} {
		l := [][]byte{nil, {}, b[:0], b[:1], b[:13], b[:60], b[:63], b[1:], append(slices.Clone(b), 0), append([]byte{0}, b...), append(slices.Clone(b), b...), make([]byte, 4096)}
		for n := range 130 {
			if n != 64 {
				l = append(l, make([]byte, n), bytes.Repeat([]byte{255}, n))
			}
			// Their sums are right at their own lengths, and what stands ahead is a sector's.
			if n > 0 {
				l = append(l, crc.Seal(append(slices.Clone(b[:60]), make([]byte, n)...)))
			}
			if n < 60 {
				l = append(l, crc.Seal(b[:n]))
			}
		}
		for _, x := range l {
			refuses(t, x, unlike.No, unlike.Snap, api.ErrShort)
			refuses(t, x, -1, 0, api.ErrShort)
			refusesOpen(t, x, api.ErrShort)
		}
	}
}

func TestSum(t *testing.T) { // P17.1, P17.2: a wrong sum is named ahead of a wrong form
	bad := altered(unlike, func(l *api.Leaf) { l.Snap = 0 })
	l := [][]byte{sector(unlike), sector(bad), closed(rawLeaf(unlike, 4)), closed(rawLeaf(unlike, 2)), closed(append(rawLeaf(unlike, 3), 1)),
		commitSector(unlikeCommit), commitSector(api.Commit{}), closed(append(rawCommit(unlikeCommit), 1)), closed([]byte{213, 3}), closed([]byte{0, 4}),
		make([]byte, 64), bytes.Repeat([]byte{255}, 64)}
	for _, b := range l {
		if binary.LittleEndian.Uint32(b[60:]) == crc32.ChecksumIEEE(b[:60]) {
			b[63] ^= 64
		}
		refuses(t, b, unlike.No, unlike.Snap, api.ErrSum)
		refuses(t, b, unlike.No-1, unlike.Snap, api.ErrSum)
		refuses(t, b, unlike.No, unlike.Snap-1, api.ErrSum)
		refuses(t, b, -1, 0, api.ErrSum)
		refusesOpen(t, b, api.ErrSum)
	}
}

func TestSealAndOpen(t *testing.T) { // P17.2
	for _, c := range commits() {
		sealsRound(t, c)
	}
	r := rand.New(rand.NewSource(172))
	for range 3000 {
		sealsRound(t, anyCommit(r))
	}
}

func TestCommitBounds(t *testing.T) { // P17.2: each number alone at its bounds and beyond
	for _, c := range commits() {
		for _, n := range goodGens() {
			sealsRound(t, api.Commit{Snap: n, Leaves: c.Leaves, From: c.From})
			sealsRound(t, api.Commit{Snap: c.Snap, Leaves: c.Leaves, From: n})
		}
		sealsRound(t, api.Commit{Snap: c.Snap, Leaves: c.Leaves})
		for _, n := range goodShorts() {
			sealsRound(t, api.Commit{Snap: c.Snap, Leaves: n, From: c.From})
		}
		for _, n := range badGens() {
			refusesSeal(t, api.Commit{Snap: n, Leaves: c.Leaves, From: c.From})
			refusesOpen(t, commitSector(api.Commit{Snap: n, Leaves: c.Leaves, From: c.From}), api.ErrForm)
			if n != 0 {
				refusesSeal(t, api.Commit{Snap: c.Snap, Leaves: c.Leaves, From: n})
				refusesOpen(t, commitSector(api.Commit{Snap: c.Snap, Leaves: c.Leaves, From: n}), api.ErrForm)
			}
		}
		for _, n := range badShorts() {
			refusesSeal(t, api.Commit{Snap: c.Snap, Leaves: n, From: c.From})
		}
	}
	refusesSeal(t, api.Commit{})
	refusesSeal(t, api.Commit{Snap: math.MaxUint64, Leaves: math.MaxInt, From: math.MaxUint64})
	refusesSeal(t, api.Commit{Leaves: math.MinInt})
	refusesOpen(t, closed([]byte{213, ofCommit}), api.ErrForm)
}

func TestEachLeaves(t *testing.T) { // P17.2
	for n := range 65536 {
		c := api.Commit{Snap: 9, Leaves: n, From: 4}
		b := seal(t, c)
		if got := int(b[10]) + int(b[11])<<8; got != n {
			t.Fatalf("Seal of %d leaves: %d stands there", n, got)
		}
		opens(t, b, c)
	}
}

func same(t testing.TB, a, b api.Leaf, want bool) {
	t.Helper()
	if got := Same(a, b); got != want {
		t.Errorf("Same(%+v, %+v): %v", a, b, got)
	}
	if got := Same(b, a); got != want {
		t.Errorf("Same(%+v, %+v): %v", b, a, got)
	}
}

func TestSame(t *testing.T) { // P17.3: unlike in one number alone, and in how many entries
	all := append(leaves(), api.Leaf{}, api.Leaf{No: math.MinInt, Snap: math.MaxUint64, Entries: []api.Entry{{Slot: math.MinInt, Lba: math.MaxInt, Tag: math.MaxUint64}}}, leafOf(2, 5, 2, 2, 0, -1, 9))
	for i, a := range all {
		for j, b := range all {
			same(t, a, altered(b, func(*api.Leaf) {}), i == j || sameWords(a, b))
		}
		for bit := range 64 {
			same(t, a, altered(a, func(l *api.Leaf) { l.No ^= 1 << bit }), false)
			same(t, a, altered(a, func(l *api.Leaf) { l.Snap ^= 1 << bit }), false)
			for k := range a.Entries {
				same(t, a, altered(a, func(l *api.Leaf) { l.Entries[k].Slot ^= 1 << bit }), false)
				same(t, a, altered(a, func(l *api.Leaf) { l.Entries[k].Lba ^= 1 << bit }), false)
				same(t, a, altered(a, func(l *api.Leaf) { l.Entries[k].Tag ^= 1 << bit }), false)
			}
		}
		for n := range a.Entries {
			same(t, a, altered(a, func(l *api.Leaf) { l.Entries = l.Entries[:n] }), false)
		}
		same(t, a, altered(a, func(l *api.Leaf) { l.Entries = append(l.Entries, api.Entry{}) }), false)
	}
}

func TestSameEmpty(t *testing.T) { // P17.3: nil and empty entries are the same; the order of entries is not
	for _, l := range []api.Leaf{{}, {No: 2, Snap: 5}} {
		same(t, l, altered(l, func(l *api.Leaf) { l.Entries = []api.Entry{} }), true)
		same(t, l, altered(l, func(l *api.Leaf) { l.Entries = make([]api.Entry, 0, 3) }), true)
		same(t, l, altered(l, func(l *api.Leaf) { l.Entries = make([]api.Entry, 1) }), false)
	}
	a, b := leafOf(2, 5, 0, 1), leafOf(2, 5, 0, 1)
	slices.Reverse(b.Entries)
	same(t, a, b, false)
	same(t, api.Leaf{Entries: a.Entries[:1]}, api.Leaf{Entries: a.Entries}, false)
}

func TestOf(t *testing.T) { // P17.3
	for _, c := range []struct{ slot, want int }{{-1, 0}, {-2, 0}, {-3, 0}, {-4, 0}, {-6, 0}, {math.MinInt, 0}, {math.MinInt + 1, 0}, {math.MinInt32, 0},
		{0, 0}, {1, 0}, {2, 0}, {3, 1}, {4, 1}, {5, 1}, {191, 63}, {192, 64}, {196607, 65535}, {196608, 65536},
		{1 << 32, 1431655765}, {math.MaxInt, 3074457345618258602}, {math.MaxInt - 1, 3074457345618258602}, {math.MaxInt - 2, 3074457345618258601}} {
		if got := Of(c.slot); got != c.want {
			t.Errorf("Of(%d): %d, not %d", c.slot, got, c.want)
		}
	}
	for slot := range 3000 {
		for no := range 1000 {
			if (Of(slot) == no) != (slot >= 3*no && slot < 3*no+3) {
				t.Fatalf("Of(%d): %d", slot, Of(slot))
			}
		}
	}
}

func TestPutIsGot(t *testing.T) { // P17.4: what is put is got, what is got is put as that sector; so with commits
	r := rand.New(rand.NewSource(174))
	for range 5000 {
		l := anyLeaf(r)
		b := put(t, l)
		got, e := Get(b, l.No, l.Snap)
		if e != api.OK || !Same(got, l) {
			t.Errorf("Get: %+v, %d, not %+v", got, e, l)
		}
		if again := put(t, got); !bytes.Equal(again, b) {
			t.Errorf("put again: %x, not %x", again, b)
		}
		c := anyCommit(r)
		b = seal(t, c)
		opened, e := Open(b)
		if e != api.OK || opened != c {
			t.Errorf("Open: %+v, %d, not %+v", opened, e, c)
		}
		if again := seal(t, opened); !bytes.Equal(again, b) {
			t.Errorf("sealed again: %x, not %x", again, b)
		}
	}
}

// mayBeWords tells by the chapter's words whether a leaf may be.
func mayBeWords(l api.Leaf) bool {
	if l.No < 0 || l.No > 65535 || l.Snap < 1 || l.Snap > most || len(l.Entries) > 3 {
		return false
	}
	for i, e := range l.Entries {
		if e.Slot < 3*l.No || e.Slot > 3*l.No+2 || i > 0 && e.Slot <= l.Entries[i-1].Slot {
			return false
		}
		if e.Lba < 0 || e.Lba > 65535 || e.Tag < 1 || e.Tag > most {
			return false
		}
	}
	return true
}

func TestAnyPut(t *testing.T) { // P17.1: leaves of all kinds against the words
	r := rand.New(rand.NewSource(1740))
	good := 0
	for range 60000 {
		l := leafOf(r.Intn(3), uint64(r.Intn(3)))
		for range r.Intn(5) {
			l.Entries = append(l.Entries, api.Entry{Slot: 3*l.No - 1 + r.Intn(5), Lba: []int{0, 65535, 65536, -1, 9, 9, 9, 9}[r.Intn(8)], Tag: []uint64{0, most + 1, most, 1, 1, 9, 9, 9}[r.Intn(8)]})
		}
		if !mayBeWords(l) {
			refusesPut(t, l)
			continue
		}
		goesRound(t, l)
		if len(l.Entries) > 1 {
			good++
		}
	}
	if good < 200 {
		t.Errorf("but %d leaves of some entries may be", good)
	}
}

func TestAnySector(t *testing.T) { // P17.1, P17.4: octets of all kinds against the words; each that is got is put as that sector
	r := rand.New(rand.NewSource(1741))
	got := [4]int{}
	for range 80000 {
		l := anyLeaf(r)
		if r.Intn(8) == 0 {
			l.Snap = []uint64{0, most + 1, math.MaxUint64}[r.Intn(3)]
		}
		if n := len(l.Entries); n > 0 && r.Intn(5) == 0 {
			i := r.Intn(n)
			l.Entries[i].Slot = min(max(l.Entries[i].Slot-2+r.Intn(5), 0), 1<<18)
			l.Entries[i].Tag = []uint64{0, 5, l.Entries[i].Tag, most + 1}[r.Intn(4)]
		}
		count := len(l.Entries)
		if r.Intn(8) == 0 {
			count = r.Intn(6)
		}
		raw := rawLeaf(l, count)
		rest := make([]byte, restEnd-len(raw))
		if count == len(l.Entries) && r.Intn(8) == 0 { // else it could be that an entry stood there
			rest[r.Intn(len(rest))] = byte(r.Intn(256))
		}
		blank := bytes.Equal(rest, make([]byte, len(rest)))
		raw[0], raw[1] = []byte{213, 213, 213, 213, 213, 7}[r.Intn(6)], []byte{4, 4, 4, 4, 4, 5}[r.Intn(6)]
		page := raw[0] == 213 && raw[1] == 4
		b := closed(append(raw, rest...))
		if r.Intn(9) == 0 {
			b[r.Intn(64)] ^= 1 << r.Intn(8)
		}
		if r.Intn(9) == 0 {
			b = b[:r.Intn(65)]
		}
		no, snap := l.No, l.Snap
		if r.Intn(8) == 0 {
			no = anyShort(r)
		}
		if r.Intn(8) == 0 {
			snap = anyGen(r)
		}
		want := api.ErrForm
		switch {
		case len(b) != 64:
			want = api.ErrShort
		case binary.LittleEndian.Uint32(b[60:]) != crc32.ChecksumIEEE(b[:60]):
			want = api.ErrSum
		case page && count == len(l.Entries) && blank && mayBeWords(l) && no == l.No && snap == l.Snap:
			goesRound(t, l)
			gets(t, b, l)
			got[count]++
			continue
		}
		refuses(t, b, no, snap, want)
	}
	for n, many := range got {
		if many < 500 {
			t.Errorf("but %d were leaves of %d entries", many, n)
		}
	}
}

func TestAnyCommitSector(t *testing.T) { // P17.2, P17.4
	r := rand.New(rand.NewSource(1742))
	got := 0
	for range 30000 {
		c := anyCommit(r)
		if r.Intn(6) == 0 {
			c.Snap = []uint64{0, most + 1, math.MaxUint64}[r.Intn(3)]
		}
		if r.Intn(6) == 0 {
			c.From = []uint64{most + 1, 0, math.MaxUint64}[r.Intn(3)]
		}
		raw := append(rawCommit(c), make([]byte, restEnd-commitRest)...)
		if r.Intn(6) == 0 {
			raw[commitRest+r.Intn(restEnd-commitRest)] = byte(r.Intn(256))
		}
		blank := bytes.Equal(raw[commitRest:], make([]byte, restEnd-commitRest))
		raw[0], raw[1] = []byte{213, 213, 213, 213, 213, 7}[r.Intn(6)], []byte{5, 5, 5, 5, 5, 4}[r.Intn(6)]
		page := raw[0] == 213 && raw[1] == 5
		b := closed(raw)
		if r.Intn(9) == 0 {
			b[r.Intn(64)] ^= 1 << r.Intn(8)
		}
		want := api.ErrForm
		switch {
		case binary.LittleEndian.Uint32(b[60:]) != crc32.ChecksumIEEE(b[:60]):
			want = api.ErrSum
		case page && blank && c.Snap >= 1 && c.Snap <= most && c.From <= most:
			opens(t, b, c)
			if again := seal(t, c); !bytes.Equal(again, b) {
				t.Errorf("sealed again: %x, not %x", again, b)
			}
			got++
			continue
		}
		refusesOpen(t, b, want)
	}
	if got < 1000 {
		t.Errorf("but %d were commits", got)
	}
}

// bursts are turns that reach over that many bits: the first and the last of them, all, and some.
func bursts(r *rand.Rand, many int) []uint32 {
	ends, all := uint32(1)|1<<(many-1), uint32(1<<many-1)
	return []uint32{ends, all, ends | r.Uint32()&all}
}

func TestTurnedBits(t *testing.T) { // P17.4: bursts of 1 to 32 bits at each place of a sector: nothing's, under no number
	r := rand.New(rand.NewSource(1743))
	for _, l := range []api.Leaf{unlike, leafOf(0, 1), leafOf(2, 5, 0, 2), leafOf(65535, most, 1)} {
		b := put(t, l)
		for many := 1; many <= 32; many++ {
			for at := 0; at <= 512-many; at++ {
				for _, turn := range bursts(r, many) {
					hurt := crc.Turn(b, at, turn)
					refuses(t, hurt, l.No, l.Snap, api.ErrSum)
					refusesOpen(t, hurt, api.ErrSum)
				}
			}
		}
		for bit := range 16 { // as another number's or snapshot's it is not taken, either
			refuses(t, crc.Turn(b, 16+bit, 1), l.No^1<<bit, l.Snap, api.ErrSum)
			refuses(t, crc.Turn(b, 32+bit, 1), l.No, l.Snap^1<<bit, api.ErrSum)
		}
		gets(t, crc.Turn(crc.Turn(b, 77, 0x80000001), 77, 0x80000001), l)
	}
	for _, c := range []api.Commit{unlikeCommit, {Snap: 1}} {
		b := seal(t, c)
		for many := 1; many <= 32; many++ {
			for at := 0; at <= 512-many; at++ {
				for _, turn := range bursts(r, many) {
					hurt := crc.Turn(b, at, turn)
					refusesOpen(t, hurt, api.ErrSum)
					refuses(t, hurt, 0, 1, api.ErrSum)
				}
			}
		}
		opens(t, crc.Turn(crc.Turn(b, 77, 0x80000001), 77, 0x80000001), c)
	}
}

func TestTurnedBitsOfAny(t *testing.T) { // P17.4
	r := rand.New(rand.NewSource(1744))
	for range 20000 {
		l, c := anyLeaf(r), anyCommit(r)
		refuses(t, crc.Turn(put(t, l), r.Intn(481), 1|r.Uint32()), l.No, l.Snap, api.ErrSum)
		refusesOpen(t, crc.Turn(seal(t, c), r.Intn(481), 1|r.Uint32()), api.ErrSum)
	}
}

func TestMemory(t *testing.T) { // P17.1 to P17.3: nothing handed in is changed or kept, what lies behind is not read, answers are new memory
	entries := append(slices.Clone(unlike.Entries), api.Entry{Slot: -1, Lba: -2, Tag: 3})
	l := api.Leaf{No: unlike.No, Snap: unlike.Snap, Entries: entries[:3]}
	first, second := put(t, l), put(t, l)
	kept := string(second)
	for i := range first {
		first[i] = 'x'
	}
	_ = append(first, "yyyy"...)
	if string(second) != kept {
		t.Errorf("what Put told shares memory: %x", second)
	}
	short := api.Leaf{No: l.No, Snap: l.Snap, Entries: entries[:1]}
	goesRound(t, short)
	same(t, l, unlike, true)
	same(t, short, l, false)
	if !slices.Equal(entries[:3], unlike.Entries) || entries[3] != (api.Entry{Slot: -1, Lba: -2, Tag: 3}) {
		t.Errorf("changed: %+v", entries)
	}

	memory := append(slices.Clone(second), "behind"...)
	before := string(memory)
	a, _ := Get(memory[:64], l.No, l.Snap)
	b, _ := Get(memory[:64], l.No, l.Snap)
	refuses(t, memory[:63], l.No, l.Snap, api.ErrShort)
	refusesOpen(t, memory[:63], api.ErrShort)
	refusesOpen(t, memory[:64], api.ErrForm)
	if string(memory) != before {
		t.Errorf("changed: %q", memory)
	}
	clear(memory)
	clear(a.Entries)
	_ = append(a.Entries, api.Entry{})
	if !sameWords(b, unlike) {
		t.Errorf("kept or shared: %+v", b)
	}

	x, y := seal(t, unlikeCommit), seal(t, unlikeCommit)
	kept = string(y)
	clear(x)
	if string(y) != kept {
		t.Errorf("what Seal told shares memory: %x", y)
	}
}

func TestSameAgain(t *testing.T) { // P17.1 to P17.3: what is told hangs on the arguments alone
	want, wanted := put(t, unlike), seal(t, unlikeCommit)
	Put(api.Leaf{})
	Put(leafOf(3, 4, 1))
	Seal(api.Commit{})
	Seal(api.Commit{Snap: 9})
	Get(nil, 0, 0)
	Get(make([]byte, 64), 0, 0)
	Open(nil)
	Open(want)
	Same(unlike, api.Leaf{})
	Of(-1)
	if b := put(t, unlike); !bytes.Equal(b, want) {
		t.Errorf("Put a second time: %x, not %x", b, want)
	}
	if b := seal(t, unlikeCommit); !bytes.Equal(b, wanted) {
		t.Errorf("Seal a second time: %x, not %x", b, wanted)
	}
	gets(t, want, unlike)
	opens(t, wanted, unlikeCommit)
}
