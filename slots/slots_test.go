package slots

import (
	"bytes"
	"encoding/binary"
	"hash/crc32"
	"math"
	"math/rand"
	"slices"
	"testing"

	"springhouse/api"
	"springhouse/dev"
	"springhouse/plan"
)

const (
	mostGen  = uint64(1) << 62
	mostLba  = 65535
	mostWear = uint32(1<<32 - 1)
)

// shape is how many slots there are, and how long the log ahead of them is.
type shape struct{ slots, log int }

// shapes are of one slot, of few, of the most; behind a log of one sector, and of the most.
func shapes() []shape {
	return []shape{{1, 1}, {2, 3}, {3, 1}, {4, 5}, {7, 256}, {192, 1}}
}

// at and cache are worked out without the project's packages.
func (s shape) at(slot int) int { return 2 + 2*((s.slots+2)/3) + s.log + 2*slot }
func (s shape) cache() int      { return s.at(s.slots) }

func (s shape) chart(t testing.TB) plan.Map {
	t.Helper()
	m, e := plan.Of(api.Conf{Blocks: 9, Slots: s.slots, Log: s.log, Window: 1})
	is(t, "plan.Of", e, api.OK)
	return m
}

func is(t testing.TB, what string, got, want api.Errno) {
	t.Helper()
	if got != want {
		t.Fatalf("%s: %d, not %d", what, got, want)
	}
}

// disk is a device as the shape asks for, on which no sector is blank, and none a head's.
func (s shape) disk(t testing.TB) (*dev.Dev, *dev.Power) {
	t.Helper()
	d, p := diskOf(t, s.cache())
	for at := range d.Size() {
		is(t, "Write", d.Write(at, junk(at)), api.OK)
	}
	is(t, "Flush", d.Flush(), api.OK)
	return d, p
}

func diskOf(t testing.TB, sectors int) (*dev.Dev, *dev.Power) {
	t.Helper()
	p := dev.NewPower()
	d, e := dev.New(sectors, p)
	is(t, "dev.New", e, api.OK)
	return d, p
}

// junk is a sector that is no page, and unlike at each place.
func junk(at int) []byte {
	b := bytes.Repeat([]byte{byte(at), byte(at>>8) + 77}, 32)
	b[0] = 9
	return b
}

// data is the data of a block, unlike for each number.
func data(n int) []byte {
	b := make([]byte, 64)
	for i := range b {
		b[i] = byte(n*31 + i*7 + n*i)
	}
	return binary.LittleEndian.AppendUint32(b[:60], uint32(n))
}

// sealed is the sector of a head, laid out without the project's packages.
func sealed(used byte, lba int, gen uint64, sum, wear uint32) []byte {
	return sealedAs(3, used, lba, gen, sum, wear)
}

func sealedAs(kind, used byte, lba int, gen uint64, sum, wear uint32) []byte {
	b := binary.LittleEndian.AppendUint16([]byte{213, kind, used}, uint16(lba))
	b = binary.LittleEndian.AppendUint64(b, gen)
	b = binary.LittleEndian.AppendUint32(b, sum)
	b = binary.LittleEndian.AppendUint32(b, wear)
	b = append(b, make([]byte, 60-len(b))...)
	return binary.LittleEndian.AppendUint32(b, crc32.ChecksumIEEE(b))
}

func free(wear uint32) []byte { return sealed(0, 0, 0, 0, wear) }

func taken(lba int, gen uint64, data []byte, wear uint32) []byte {
	return sealed(1, lba, gen, crc32.ChecksumIEEE(data), wear)
}

// lay writes b to a sector, and fixes it.
func lay(t testing.TB, d *dev.Dev, at int, b []byte) {
	t.Helper()
	is(t, "Write", d.Write(at, b), api.OK)
	is(t, "Flush", d.Flush(), api.OK)
}

// image is what stands in all sectors.
func image(d *dev.Dev) [][]byte {
	var all [][]byte
	for at := range d.Size() {
		b, _ := d.Peek(at)
		all = append(all, b)
	}
	return all
}

func sameImage(t testing.TB, what string, d *dev.Dev, want [][]byte) {
	t.Helper()
	if d.Size() != len(want) {
		t.Fatalf("%s: %d sectors", what, d.Size())
	}
	for at, b := range want {
		if got, ok := d.Peek(at); !ok || !bytes.Equal(got, b) {
			t.Fatalf("%s: sector %d: %x, %t, not %x", what, at, got, ok, b)
		}
	}
}

// unwritten asks that no writing call was done, and that nothing is loose.
func unwritten(t testing.TB, what string, d *dev.Dev, p *dev.Power, done int) {
	t.Helper()
	if p.Done() != done || len(d.Loose()) != 0 {
		t.Fatalf("%s: %d writing calls, not %d; loose: %v", what, p.Done(), done, d.Loose())
	}
}

func (s shape) opens(t testing.TB, d *dev.Dev) *Store {
	t.Helper()
	x, e := Open(d, s.chart(t))
	if x == nil || e != api.OK || x.Len() != s.slots {
		t.Fatalf("Open: %t, %d, Len %d, not %d", x != nil, e, x.Len(), s.slots)
	}
	return x
}

func refuses(t testing.TB, what string, d *dev.Dev, m plan.Map, want api.Errno) {
	t.Helper()
	if x, e := Open(d, m); x != nil || e != want {
		t.Fatalf("%s: Open: %t, %d, not %d", what, x != nil, e, want)
	}
}

// worn asks for the wear of all slots, and of all together.
func worn(t testing.TB, what string, x *Store, want ...uint32) {
	t.Helper()
	sum := uint64(0)
	for slot, w := range want {
		if got := x.Wear(slot); got != w {
			t.Fatalf("%s: Wear(%d): %d, not %d", what, slot, got, w)
		}
		sum += uint64(w)
	}
	if x.Len() != len(want) || x.Total() != sum {
		t.Fatalf("%s: Len %d, Total %d, not %d, %d", what, x.Len(), x.Total(), len(want), sum)
	}
}

func reads(t testing.TB, what string, x *Store, slot, lba int, data []byte, gen uint64) {
	t.Helper()
	if b, g, e := x.Read(slot, lba); !bytes.Equal(b, data) || g != gen || e != api.OK {
		t.Fatalf("%s: Read(%d, %d): %x, %d, %d, not %x, %d", what, slot, lba, b, g, e, data, gen)
	}
}

func unread(t testing.TB, what string, x *Store, slot, lba int, want api.Errno) {
	t.Helper()
	if b, g, e := x.Read(slot, lba); b != nil || g != 0 || e != want {
		t.Fatalf("%s: Read(%d, %d): %x, %d, %d, not %d", what, slot, lba, b, g, e, want)
	}
}

func fills(t testing.TB, x *Store, slot, lba int, gen uint64, data []byte) {
	t.Helper()
	if e := x.Fill(slot, lba, gen, data); e != api.OK {
		t.Fatalf("Fill(%d, %d, %d, %x): %d", slot, lba, gen, data, e)
	}
}

// noSlots are numbers that no store of that many slots has.
func noSlots(many int) []int {
	return []int{-1, -2, many, many + 1, 192, 1 << 32, -1 << 32, math.MinInt, math.MaxInt}
}

func TestExample(t *testing.T) { // the chapter's example
	s := shape{3, 1}
	d, _ := s.disk(t)
	x := s.opens(t, d)
	fills(t, x, 0, 7, 2, data(1))
	reads(t, "filled", x, 0, 7, data(1), 2)
	unread(t, "another block", x, 0, 8, api.ErrNone)
	if x.Fault(0) || !x.Fault(0) {
		t.Fatal("Fault")
	}
	is(t, "Fill", x.Fill(0, 7, 2, data(1)), api.ErrState)
}

func TestOpen(t *testing.T) { // P16.1, P16.5: a device without heads: no slot is worn
	for _, s := range shapes() {
		d, p := s.disk(t)
		blank, q := diskOf(t, s.cache())
		before, done := image(d), p.Done()
		worn(t, "junk", s.opens(t, d), make([]uint32, s.slots)...)
		worn(t, "blank", s.opens(t, blank), make([]uint32, s.slots)...)
		sameImage(t, "junk", d, before)
		unwritten(t, "junk", d, p, done)
		unwritten(t, "blank", blank, q, 0)
	}
}

func TestOpenReadsWear(t *testing.T) { // P16.1: of heads of free slots and of taken ones, with all kinds of wear
	for _, s := range shapes() {
		d, p := s.disk(t)
		var want []uint32
		for slot := range s.slots {
			w := []uint32{0, 1, 5, 255, 256, 65536, 1<<31 - 1, 1 << 31, mostWear - 1, mostWear}[slot%10]
			b := free(w)
			if slot%3 == 1 {
				b = taken(slot, mostGen, data(slot), w)
			}
			lay(t, d, s.at(slot), b)
			lay(t, d, s.at(slot)+1, taken(slot, 7, data(slot), 99)) // what stands at the data is not asked
			want = append(want, w)
		}
		before, done := image(d), p.Done()
		x := s.opens(t, d)
		worn(t, "opened", x, want...)
		for slot := range s.slots {
			if x.Bad(slot) {
				t.Fatal("Bad", slot)
			}
		}
		sameImage(t, "opened", d, before)
		unwritten(t, "opened", d, p, done)
	}
}

func TestOpenLoose(t *testing.T) { // P16.1: it goes by what stands, fixed or not
	s := shape{3, 1}
	d, _ := s.disk(t)
	lay(t, d, s.at(1), free(3))
	is(t, "Write", d.Write(s.at(1), free(9)), api.OK)
	worn(t, "loose", s.opens(t, d), 0, 9, 0)
}

func TestOpenNoHeads(t *testing.T) { // P16.1: a slot whose head is none has the wear 0, the others theirs
	s := shape{3, 1}
	turned := free(9)
	turned[20] ^= 4
	for i, b := range [][]byte{
		junk(1), make([]byte, 64), turned, sealedAs(2, 0, 0, 0, 0, 9), sealedAs(4, 0, 0, 0, 0, 9),
		sealed(0, 1, 0, 0, 9), sealed(0, 0, 1, 0, 9), sealed(0, 0, 0, 1, 9),
		sealed(1, 1, 0, 0, 9), sealed(1, 1, mostGen+1, 0, 9), sealed(2, 1, 1, 0, 9),
	} {
		for slot := range 3 {
			d, _ := s.disk(t)
			want := []uint32{4, 5, 6}
			for other := range 3 {
				lay(t, d, s.at(other), free(want[other]))
			}
			lay(t, d, s.at(slot), b)
			want[slot] = 0
			worn(t, "no head", s.opens(t, d), want...)
			if i == 0 {
				continue
			}
			lay(t, d, s.at(slot)+1, data(1))
			unread(t, "no head", s.opens(t, d), slot, 1, api.ErrSum)
		}
	}
}

func TestOpenUnread(t *testing.T) { // P16.1: a slot whose head can't be read has the wear 0; just one sector is read of each slot, in order
	s := shape{4, 1}
	for pattern := range uint64(1 << 6) {
		d, _ := s.disk(t)
		for slot := range 4 {
			lay(t, d, s.at(slot), taken(1, 1, data(1), uint32(slot+4)))
		}
		d.Fail(pattern, math.MaxUint64)
		x := s.opens(t, d)
		want := []uint32{4, 5, 6, 7}
		for slot := range 4 {
			if pattern>>slot&1 == 1 {
				want[slot] = 0
			}
		}
		worn(t, "unread", x, want...)
		for i := 4; i < 6; i++ {
			if _, e := d.Read(0); (e == api.ErrIO) != (pattern>>i&1 == 1) {
				t.Fatalf("pattern %b: read %d: %d", pattern, i, e)
			}
		}
		is(t, "Write", d.Write(0, junk(0)), api.ErrIO) // no write was spent
	}
}

func TestOpenRefuses(t *testing.T) { // P16.1: the errors, and their order where several hold
	s := shape{3, 1}
	m := s.chart(t)
	right, p := s.disk(t)
	fewer, p1 := diskOf(t, s.cache()-1)
	more, p2 := diskOf(t, s.cache()+1)
	none, p3 := diskOf(t, 0)
	check := func(what string, down api.Errno) {
		for _, d := range []*dev.Dev{nil, {}} {
			refuses(t, what, d, m, api.ErrNil)
			refuses(t, what, d, plan.Map{}, api.ErrNil)
		}
		for _, d := range []*dev.Dev{fewer, more, none} {
			refuses(t, what, d, m, api.ErrArg)
			refuses(t, what, d, plan.Map{}, api.ErrArg)
		}
		refuses(t, what, right, plan.Map{}, api.ErrArg)
		refuses(t, what, right, shape{2, 1}.chart(t), api.ErrArg)
		refuses(t, what, right, shape{3, 2}.chart(t), api.ErrArg)
		if down != api.OK {
			refuses(t, what, right, m, down)
		}
	}
	check("on", api.OK)
	s.opens(t, right)
	for _, q := range []*dev.Power{p, p1, p2, p3} {
		q.Cut()
	}
	check("off", api.ErrDown)
	p = dev.NewPower()
	d, _ := right.Crash(p)
	s.opens(t, d)
	is(t, "Fuse", p.Fuse(0), api.OK)
	s.opens(t, d) // it does no writing call
	is(t, "Flush", d.Flush(), api.ErrDown)
	refuses(t, "the power went", d, m, api.ErrDown)
}

// stage is how far a fill came: its writing calls were done up to that one, or all, and the slot is left so.
type stage struct {
	head, data []byte
	loose      int // 0: none, 1: the head, 2: the data
	wear       uint32
}

// stages are those of a fill of a slot with that head, data and wear: behind none, one, .. and all five of its writing calls.
func stages(head, old []byte, wear uint32, lba int, gen uint64, b []byte) []stage {
	f := free(wear + 1)
	return []stage{
		{head, old, 0, wear}, {f, old, 1, wear + 1}, {f, old, 0, wear + 1},
		{f, b, 2, wear + 1}, {f, b, 0, wear + 1}, {taken(lba, gen, b, wear+1), b, 1, wear + 1},
	}
}

// left asks that the slot is left so, and that all else stands as it was.
func (s shape) left(t testing.TB, what string, d *dev.Dev, x *Store, slot int, before [][]byte, want stage) {
	t.Helper()
	at := s.at(slot)
	img := slices.Clone(before)
	img[at], img[at+1] = want.head, want.data
	sameImage(t, what, d, img)
	var loose []api.Loose
	if want.loose > 0 {
		loose = []api.Loose{{At: at + want.loose - 1, Many: 1}}
	}
	if !slices.Equal(d.Loose(), loose) {
		t.Fatalf("%s: loose: %v, not %v", what, d.Loose(), loose)
	}
	if x.Wear(slot) != want.wear {
		t.Fatalf("%s: Wear %d, not %d", what, x.Wear(slot), want.wear)
	}
}

// begins are slots as a fill may find them: never written, free, and taken.
func begins() []stage {
	return []stage{
		{junk(3), junk(4), 0, 0}, {free(4), junk(4), 0, 4}, {taken(5, 8, data(3), 6), data(3), 0, 6}, {taken(mostLba, mostGen, data(3), mostWear-1), data(3), 0, mostWear - 1},
	}
}

// begin is a store with a slot as it is said.
func (s shape) begin(t testing.TB, slot int, b stage) (*Store, *dev.Dev, *dev.Power) {
	t.Helper()
	d, p := s.disk(t)
	lay(t, d, s.at(slot), b.head)
	lay(t, d, s.at(slot)+1, b.data)
	return s.opens(t, d), d, p
}

func TestFill(t *testing.T) { // P16.2: in each slot, as it may be found: what stands behind it, and how worn it is
	for _, s := range shapes() {
		for slot := range s.slots {
			for _, b := range begins() {
				x, d, p := s.begin(t, slot, b)
				before, done := image(d), p.Done()
				fills(t, x, slot, 7, 2, data(9))
				s.left(t, "filled", d, x, slot, before, stages(b.head, b.data, b.wear, 7, 2, data(9))[5])
				if p.Done() != done+5 {
					t.Fatalf("%d writing calls", p.Done()-done)
				}
				reads(t, "filled", x, slot, 7, data(9), 2)
			}
			if slot == 3 && s.slots > 7 {
				break
			}
		}
	}
}

func TestFillLast(t *testing.T) { // P16.2: the last slot of all there may be
	s := shape{192, 1}
	x, d, _ := s.begin(t, 191, begins()[1])
	before := image(d)
	fills(t, x, 191, mostLba, mostGen, data(9))
	s.left(t, "filled", d, x, 191, before, stages(nil, nil, 4, mostLba, mostGen, data(9))[5])
	is(t, "one beyond", x.Fill(192, 7, 2, data(9)), api.ErrRange)
}

func TestFillPower(t *testing.T) { // P16.2, P16.5: the power gone behind each of its writes and flushes
	s := shape{3, 2}
	for slot := range 3 {
		for _, b := range begins() {
			for fuse, want := range stages(b.head, b.data, b.wear, 7, 2, data(9)) {
				x, d, p := s.begin(t, slot, b)
				before, done := image(d), p.Done()
				is(t, "Fuse", p.Fuse(fuse), api.OK)
				e := api.ErrDown
				if fuse == 5 {
					e = api.OK
				}
				is(t, "Fill", x.Fill(slot, 7, 2, data(9)), e)
				s.left(t, "the power went", d, x, slot, before, want)
				if p.Done() != done+fuse || p.Down() != (fuse < 5) {
					t.Fatalf("fuse %d: %d writing calls, %t", fuse, p.Done()-done, p.Down())
				}
				if fuse == 5 {
					p.Cut()
				}
				again := api.ErrDown
				if want.wear == mostWear {
					again = api.ErrFull // it is named ahead
				}
				is(t, "Fill again", x.Fill(slot, 8, 3, data(1)), again)
				s.left(t, "no power", d, x, slot, before, want)
			}
		}
	}
}

func TestFillFails(t *testing.T) { // P16.2, P16.5: each of its writes failing alone, and together with later ones
	s := shape{3, 2}
	for slot := range 3 {
		for _, b := range begins() {
			for pattern := uint64(1); pattern < 8; pattern++ {
				which := 0
				for pattern>>which&1 == 0 {
					which++
				}
				x, d, p := s.begin(t, slot, b)
				before, done := image(d), p.Done()
				d.Fail(math.MaxUint64, pattern) // it reads nothing
				is(t, "Fill", x.Fill(slot, 7, 2, data(9)), api.ErrIO)
				s.left(t, "a write failed", d, x, slot, before, stages(b.head, b.data, b.wear, 7, 2, data(9))[2*which])
				if p.Done() != done+2*which+1 {
					t.Fatalf("pattern %b: %d writing calls", pattern, p.Done()-done)
				}
			}
		}
	}
}

func TestFillAgain(t *testing.T) { // P16.2, P16.5: behind fills that failed the wear goes on from where it is
	s := shape{2, 1}
	x, d, p := s.begin(t, 1, begins()[1])
	want := uint32(4)
	for _, c := range []struct {
		pattern uint64
		wears   uint32
		e       api.Errno
	}{{1, 0, api.ErrIO}, {2, 1, api.ErrIO}, {4, 1, api.ErrIO}, {0, 1, api.OK}, {7, 0, api.ErrIO}, {8, 1, api.OK}, {6, 1, api.ErrIO}, {0, 1, api.OK}} {
		d.Fail(0, c.pattern)
		is(t, "Fill", x.Fill(1, 7, 2, data(9)), c.e)
		d.Fail(0, 0)
		want += c.wears
		worn(t, "filled", x, 0, want)
	}
	worn(t, "opened again", s.opens(t, d), 0, want)
	p.Cut()
	is(t, "Fill", x.Fill(1, 7, 2, data(9)), api.ErrDown)
	worn(t, "no power", x, 0, want)
}

func TestFillFlushesAll(t *testing.T) { // P16.2: all is flushed, what others wrote, too
	s := shape{3, 1}
	d, _ := s.disk(t)
	x := s.opens(t, d)
	fills(t, x, 0, 1, 1, data(1))
	is(t, "Write", d.Write(0, junk(99)), api.OK)
	fills(t, x, 2, 3, 1, data(3))
	if want := []api.Loose{{At: s.at(2), Many: 1}}; !slices.Equal(d.Loose(), want) {
		t.Fatal(d.Loose())
	}
	fills(t, x, 2, 4, 1, data(4))
	if want := []api.Loose{{At: s.at(2), Many: 1}}; !slices.Equal(d.Loose(), want) {
		t.Fatal(d.Loose())
	}
}

// fill is what a call of Fill is given.
type fill struct {
	slot, lba int
	gen       uint64
	data      []byte
}

// unchanged asks that the call is refused by that error, writes nothing, and wears nothing.
func unchanged(t testing.TB, what string, x *Store, d *dev.Dev, p *dev.Power, f fill, want api.Errno) {
	t.Helper()
	before, done := image(d), p.Done()
	var wears []uint32
	for slot := range x.Len() {
		wears = append(wears, x.Wear(slot))
	}
	if e := x.Fill(f.slot, f.lba, f.gen, f.data); e != want {
		t.Fatalf("%s: Fill(%d, %d, %d, %d octets): %d, not %d", what, f.slot, f.lba, f.gen, len(f.data), e, want)
	}
	sameImage(t, what, d, before)
	unwritten(t, what, d, p, done)
	worn(t, what, x, wears...)
}

// wrongs are fills of a slot that may not be.
func wrongs(slot int) []fill {
	var l []fill
	for _, n := range []int{0, 1, 63, 65, 128, 4096} {
		l = append(l, fill{slot, 7, 2, make([]byte, n)})
	}
	l = append(l, fill{slot, 7, 2, nil})
	for _, lba := range []int{-1, mostLba + 1, 1 << 32, -1 << 32, math.MinInt, math.MaxInt} {
		l = append(l, fill{slot, lba, 2, data(9)})
	}
	for _, gen := range []uint64{0, mostGen + 1, 1 << 63, math.MaxUint64} {
		l = append(l, fill{slot, 7, gen, data(9)})
	}
	return append(l, fill{slot, -1, 0, nil})
}

func TestFillBounds(t *testing.T) { // P16.2: what may be at the bounds, and what may not be beyond them
	s := shape{4, 1}
	d, p := s.disk(t)
	x := s.opens(t, d)
	wear := uint32(0)
	for _, lba := range []int{0, 1, 255, 256, 511, 512, mostLba - 1, mostLba} {
		for _, gen := range []uint64{1, 2, 1 << 32, mostGen - 1, mostGen} {
			fills(t, x, 3, lba, gen, data(lba))
			wear++
			reads(t, "bounds", x, 3, lba, data(lba), gen)
			worn(t, "bounds", x, 0, 0, 0, wear)
		}
	}
	is(t, "Flush", d.Flush(), api.OK)
	for _, f := range wrongs(3) {
		unchanged(t, "wrong", x, d, p, f, api.ErrArg)
	}
	for _, slot := range noSlots(4) {
		unchanged(t, "no slot", x, d, p, fill{slot, 7, 2, data(9)}, api.ErrRange)
		for _, f := range wrongs(slot) {
			unchanged(t, "no slot, and wrong", x, d, p, f, api.ErrRange)
		}
	}
}

func TestFillBad(t *testing.T) { // P16.2: a bad slot, also one that is worn to the greatest; errors that are named ahead hold first
	s := shape{3, 1}
	for _, b := range append(begins(), stage{free(mostWear), junk(1), 0, mostWear}) {
		x, d, p := s.begin(t, 1, b)
		x.Fault(1)
		x.Fault(1)
		unchanged(t, "bad", x, d, p, fill{1, 7, 2, data(9)}, api.ErrState)
		for _, f := range wrongs(1) {
			unchanged(t, "bad, and wrong", x, d, p, f, api.ErrArg)
		}
		fills(t, x, 0, 7, 2, data(9))
		is(t, "Flush", d.Flush(), api.OK)
		p.Cut()
		unchanged(t, "bad, and no power", x, d, p, fill{1, 7, 2, data(9)}, api.ErrState)
		unchanged(t, "wrong, and no power", x, d, p, fill{2, 7, 0, data(9)}, api.ErrArg)
		unchanged(t, "no slot, and no power", x, d, p, fill{3, 7, 0, data(9)}, api.ErrRange)
	}
}

func TestFillOnceFaulty(t *testing.T) { // P16.2: a slot of one fault is filled; a bad one again when it was healed
	s := shape{3, 1}
	x, _, _ := s.begin(t, 1, begins()[1])
	x.Fault(1)
	fills(t, x, 1, 7, 2, data(9))
	x.Fault(1)
	is(t, "bad", x.Fill(1, 7, 2, data(9)), api.ErrState)
	reads(t, "bad", x, 1, 7, data(9), 2)
	x.Heal()
	fills(t, x, 1, 8, 3, data(8))
	worn(t, "healed", x, 0, 6, 0)
}

func TestFillFull(t *testing.T) { // P16.2: worn to one below the greatest, and to the greatest
	s := shape{3, 1}
	x, d, p := s.begin(t, 1, begins()[3])
	fills(t, x, 1, 7, 2, data(9))
	worn(t, "full", x, 0, mostWear, 0)
	is(t, "Flush", d.Flush(), api.OK)
	for range 2 {
		unchanged(t, "full", x, d, p, fill{1, 7, 2, data(9)}, api.ErrFull)
	}
	for _, f := range wrongs(1) {
		unchanged(t, "full, and wrong", x, d, p, f, api.ErrArg)
	}
	reads(t, "full", x, 1, 7, data(9), 2)
	x = s.opens(t, d)
	worn(t, "opened again", x, 0, mostWear, 0)
	unchanged(t, "opened again", x, d, p, fill{1, 7, 2, data(9)}, api.ErrFull)
	p.Cut()
	unchanged(t, "no power", x, d, p, fill{1, 7, 2, data(9)}, api.ErrFull)
}

func TestFillFullLost(t *testing.T) { // P16.2: a fill of one below the greatest that failed behind its first write: it is full
	s := shape{1, 1}
	x, d, _ := s.begin(t, 0, begins()[3])
	d.Fail(0, 2)
	is(t, "Fill", x.Fill(0, 7, 2, data(9)), api.ErrIO)
	is(t, "Fill", x.Fill(0, 7, 2, data(9)), api.ErrFull)
	is(t, "Free", x.Free(0), api.OK)
	worn(t, "full", x, mostWear)
	worn(t, "opened again", s.opens(t, d), mostWear)
}

func TestRead(t *testing.T) { // P16.3: slots never filled, filled, freed; another block; no slot
	for _, s := range shapes() {
		d, p := s.disk(t)
		x := s.opens(t, d)
		last := s.slots - 1
		unread(t, "never filled", x, last, 7, api.ErrSum)
		fills(t, x, last, 7, 2, data(9))
		is(t, "Flush", d.Flush(), api.OK)
		done := p.Done()
		reads(t, "filled", x, last, 7, data(9), 2)
		for _, lba := range []int{0, 6, 8, 7 + 1<<16, 7 + 1<<32, -7, -1, math.MinInt, math.MaxInt} {
			unread(t, "another block", x, last, lba, api.ErrNone)
		}
		for _, slot := range noSlots(s.slots) {
			unread(t, "no slot", x, slot, 7, api.ErrRange)
		}
		unwritten(t, "read", d, p, done)
		is(t, "Free", x.Free(last), api.OK)
		for _, lba := range []int{0, 7, -1, math.MinInt, math.MaxInt} {
			unread(t, "freed", x, last, lba, api.ErrNone)
		}
		p.Cut()
		unread(t, "no power", x, last, 7, api.ErrDown)
		unread(t, "no power, no slot", x, -1, 7, api.ErrRange)
	}
}

func TestReadWhatStands(t *testing.T) { // P16.3: whatever the store was told, the sectors tell
	s := shape{2, 1}
	d, _ := s.disk(t)
	x := s.opens(t, d)
	for _, c := range []struct {
		head, data []byte
		want       api.Errno
	}{
		{taken(7, 2, data(9), 5), data(9), api.OK},
		{taken(7, 2, data(9), mostWear), data(9), api.OK},
		{taken(7, 2, data(8), 5), data(9), api.ErrSum},
		{taken(8, 2, data(9), 5), data(9), api.ErrNone},
		{taken(8, 2, data(8), 5), data(9), api.ErrNone}, // ahead of the sum
		{free(5), data(9), api.ErrNone},
		{taken(7, 0, data(9), 5), data(9), api.ErrSum},
		{taken(7, mostGen+1, data(9), 5), data(9), api.ErrSum},
		{sealed(2, 7, 2, crc32.ChecksumIEEE(data(9)), 5), data(9), api.ErrSum},
		{sealedAs(2, 1, 7, 2, crc32.ChecksumIEEE(data(9)), 5), data(9), api.ErrSum},
		{make([]byte, 64), data(9), api.ErrSum},
		{data(9), data(9), api.ErrSum},
	} {
		lay(t, d, s.at(1), c.head)
		lay(t, d, s.at(1)+1, c.data)
		if c.want == api.OK {
			reads(t, "stands", x, 1, 7, c.data, 2)
		} else {
			unread(t, "stands", x, 1, 7, c.want)
		}
		worn(t, "stands", x, 0, 0)
	}
}

func TestReadFails(t *testing.T) { // P16.3: reads that fail at the head, and at the data; ahead of all that the sectors tell
	s := shape{2, 1}
	d, _ := s.disk(t)
	x := s.opens(t, d)
	fills(t, x, 1, 7, 2, data(9))
	for _, c := range []struct {
		slot, lba int
		want      api.Errno
	}{{1, 7, api.OK}, {1, 8, api.ErrNone}, {0, 7, api.ErrSum}} {
		for pattern := range uint64(8) {
			d.Fail(pattern, math.MaxUint64)
			spent := 2
			switch {
			case pattern&1 == 1:
				unread(t, "the head", x, c.slot, c.lba, api.ErrIO)
				spent = 1
			case pattern&2 == 2:
				unread(t, "the data", x, c.slot, c.lba, api.ErrIO)
			case c.want == api.OK:
				reads(t, "none", x, c.slot, c.lba, data(9), 2)
			default:
				unread(t, "none", x, c.slot, c.lba, c.want)
			}
			if _, e := d.Read(0); (e == api.ErrIO) != (pattern>>spent&1 == 1) {
				t.Fatalf("pattern %b: %d", pattern, e)
			}
		}
	}
	d.Fail(3, 0)
	unread(t, "no slot", x, 2, 7, api.ErrRange)
	if _, e := d.Read(0); e != api.ErrIO {
		t.Fatal("a read was spent")
	}
}

func TestFree(t *testing.T) { // P16.3: what stands behind it; its write failing; the power gone behind its write, and behind its flush
	s := shape{3, 2}
	for slot := range 3 {
		for _, b := range append(begins(), stage{taken(7, 2, data(9), mostWear), data(9), 0, mostWear}) {
			freed := []stage{b, {free(b.wear), b.data, 1, b.wear}, {free(b.wear), b.data, 0, b.wear}}
			for fuse, want := range freed {
				x, d, p := s.begin(t, slot, b)
				before, done := image(d), p.Done()
				is(t, "Fuse", p.Fuse(fuse), api.OK)
				e := api.ErrDown
				if fuse == 2 {
					e = api.OK
				}
				is(t, "Free", x.Free(slot), e)
				s.left(t, "freed", d, x, slot, before, want)
				if p.Done() != done+fuse || p.Down() != (fuse < 2) {
					t.Fatalf("fuse %d: %d writing calls, %t", fuse, p.Done()-done, p.Down())
				}
			}
			x, d, p := s.begin(t, slot, b)
			before, done := image(d), p.Done()
			d.Fail(math.MaxUint64, 1)
			is(t, "Free", x.Free(slot), api.ErrIO)
			s.left(t, "the write failed", d, x, slot, before, b)
			if p.Done() != done+1 {
				t.Fatalf("%d writing calls", p.Done()-done)
			}
			is(t, "Free", x.Free(slot), api.OK)
			s.left(t, "freed", d, x, slot, before, freed[2])
		}
	}
}

func TestFreeOthers(t *testing.T) { // P16.3: no slot; a bad one; what else is loose is flushed; the wear is the slot's, not the head's
	s := shape{3, 1}
	d, p := s.disk(t)
	x := s.opens(t, d)
	fills(t, x, 0, 7, 2, data(9))
	is(t, "Free", x.Free(2), api.OK)
	if len(d.Loose()) != 0 {
		t.Fatal(d.Loose())
	}
	reads(t, "another slot", x, 0, 7, data(9), 2)
	before, done := image(d), p.Done()
	for _, slot := range noSlots(3) {
		is(t, "no slot", x.Free(slot), api.ErrRange)
	}
	sameImage(t, "no slot", d, before)
	unwritten(t, "no slot", d, p, done)
	x.Fault(0)
	x.Fault(0)
	is(t, "a bad one", x.Free(0), api.OK)
	unread(t, "a bad one", x, 0, 7, api.ErrNone)
	if b, _ := d.Peek(s.at(0)); !bytes.Equal(b, free(1)) || !x.Bad(0) {
		t.Fatalf("%x, %t", b, x.Bad(0))
	}
	lay(t, d, s.at(1), free(77))
	is(t, "Free", x.Free(1), api.OK)
	if b, _ := d.Peek(s.at(1)); !bytes.Equal(b, free(0)) {
		t.Fatalf("%x", b)
	}
	p.Cut()
	is(t, "no power", x.Free(1), api.ErrDown)
	is(t, "no power, no slot", x.Free(3), api.ErrRange)
}

func TestFaults(t *testing.T) { // P16.4: once, twice, three times, and of no slot
	for _, s := range shapes() {
		d, p := s.disk(t)
		x := s.opens(t, d)
		before, done := image(d), p.Done()
		for slot := range s.slots {
			for i, want := range []bool{false, true, true, true} {
				if x.Bad(slot) != (i >= 2) || x.Fault(slot) != want || x.Bad(slot) != want {
					t.Fatalf("slot %d, fault %d: %t", slot, i+1, x.Bad(slot))
				}
			}
			for other := slot + 1; other < s.slots; other++ {
				if x.Bad(other) {
					t.Fatalf("slot %d", other)
				}
			}
		}
		if n := x.Heal(); n != s.slots {
			t.Fatalf("Heal: %d, not %d", n, s.slots)
		}
		for _, slot := range noSlots(s.slots) {
			for range 3 {
				if x.Fault(slot) || x.Bad(slot) {
					t.Fatalf("slot %d", slot)
				}
			}
		}
		if n := x.Heal(); n != 0 {
			t.Fatalf("Heal: %d", n)
		}
		sameImage(t, "faults", d, before)
		unwritten(t, "faults", d, p, done)
		worn(t, "faults", x, make([]uint32, s.slots)...)
	}
}

func TestHeal(t *testing.T) { // P16.4: of none, of some, of all; faults that did not make a slot bad are gone, too
	s := shape{5, 1}
	for faults := range 3 * 3 * 3 * 3 * 3 {
		d, _ := s.disk(t)
		x := s.opens(t, d)
		bad, f := 0, faults
		for slot := range 5 {
			for range f % 3 {
				x.Fault(slot)
			}
			if f%3 == 2 {
				bad++
			}
			f /= 3
		}
		if n := x.Heal(); n != bad {
			t.Fatalf("Heal: %d, not %d", n, bad)
		}
		for slot := range 5 {
			if x.Bad(slot) || x.Fault(slot) || x.Bad(slot) || !x.Fault(slot) {
				t.Fatalf("slot %d", slot)
			}
		}
	}
}

func TestFaultsAreTheStores(t *testing.T) { // P16.1, P16.4: 0 at first, also when opened again; reads that fail are no faults by themselves
	s := shape{3, 1}
	d, _ := s.disk(t)
	x := s.opens(t, d)
	for range 5 {
		unread(t, "never filled", x, 0, 7, api.ErrSum)
		d.Fail(1, 0)
		unread(t, "a read fails", x, 0, 7, api.ErrIO)
		d.Fail(0, 1)
		is(t, "a write fails", x.Fill(0, 7, 2, data(9)), api.ErrIO)
	}
	if x.Bad(0) || x.Fault(0) {
		t.Fatal("Bad")
	}
	x.Fault(0)
	if y := s.opens(t, d); y.Bad(0) || y.Fault(0) || !x.Bad(0) {
		t.Fatal("opened again")
	}
}

func TestWear(t *testing.T) { // P16.5: each slot's, of no slot, all together beyond what 32 bits hold
	for _, s := range shapes() {
		d, _ := s.disk(t)
		for slot := range s.slots {
			lay(t, d, s.at(slot), free(mostWear-uint32(slot%2)))
		}
		x := s.opens(t, d)
		var want []uint32
		for slot := range s.slots {
			want = append(want, mostWear-uint32(slot%2))
		}
		worn(t, "the greatest", x, want...)
		for _, slot := range noSlots(s.slots) {
			if w := x.Wear(slot); w != 0 {
				t.Fatalf("Wear(%d): %d", slot, w)
			}
		}
		for slot := range s.slots {
			x.Fault(slot)
			x.Fault(slot)
		}
		worn(t, "bad ones", x, want...)
	}
}

// least asks for that slot; -1: for none.
func least(t testing.TB, x *Store, want int, l ...int) {
	t.Helper()
	slot, ok := x.Least(l...)
	if ok != (want >= 0) || slot != max(want, 0) {
		t.Fatalf("Least(%v): %d, %t, not %d", l, slot, ok, want)
	}
}

func TestLeast(t *testing.T) { // P16.5: of no numbers, of no slots, of bad ones, of several of one wear in each order
	s := shape{5, 1}
	d, p := s.disk(t)
	for slot, wear := range []uint32{7, 3, 3, mostWear, 3} {
		lay(t, d, s.at(slot), free(wear))
	}
	x := s.opens(t, d)
	done := p.Done()
	least(t, x, -1)
	least(t, x, -1, []int{}...)
	least(t, x, -1, noSlots(5)...)
	for slot := range 5 {
		least(t, x, slot, slot)
		least(t, x, slot, slot, slot)
		least(t, x, slot, append(noSlots(5), slot)...)
		least(t, x, slot, append([]int{slot}, noSlots(5)...)...)
	}
	least(t, x, 1, 0, 1, 2, 3, 4)
	least(t, x, 4, 4, 3, 2, 1, 0)
	least(t, x, 2, 3, 2, 4, 1)
	least(t, x, 4, 0, 4, 1)
	least(t, x, 0, 3, 0)
	least(t, x, 0, 0, 3)
	x.Fault(4)
	least(t, x, 4, 4, 1)
	x.Fault(4)
	least(t, x, 1, 4, 1)
	least(t, x, -1, 4, 4, -1)
	least(t, x, 3, 4, 3)
	x.Fault(1)
	x.Fault(1)
	x.Fault(2)
	x.Fault(2)
	least(t, x, 0, 4, 3, 2, 1, 0)
	x.Heal()
	least(t, x, 4, 4, 3, 2, 1, 0)
	unwritten(t, "Least", d, p, done)
	fills(t, x, 4, 1, 1, data(1))
	least(t, x, 2, 4, 3, 2, 1, 0)
}

func TestLeastAtRandom(t *testing.T) { // P16.5: held against the words
	r := rand.New(rand.NewSource(16))
	s := shape{6, 1}
	for range 300 {
		d, _ := s.disk(t)
		var wear [6]uint32
		for slot := range 6 {
			wear[slot] = uint32(r.Intn(4))
			lay(t, d, s.at(slot), free(wear[slot]))
		}
		x := s.opens(t, d)
		for range r.Intn(8) {
			x.Fault(r.Intn(6))
		}
		for range 20 {
			l := make([]int, r.Intn(9))
			for i := range l {
				l[i] = r.Intn(9) - 1
			}
			var good []int
			for _, slot := range l {
				if slot >= 0 && slot < 6 && !x.Bad(slot) {
					good = append(good, slot)
				}
			}
			slices.SortStableFunc(good, func(a, b int) int { return int(wear[a]) - int(wear[b]) })
			least(t, x, append(good, -1)[0], l...)
		}
	}
}

func TestNotMade(t *testing.T) { // P16.1 to P16.5: a nil store, and one that Open did not make
	for _, x := range []*Store{nil, {}, new(Store)} {
		for _, slot := range append(noSlots(3), 0, 1) {
			for _, f := range append(wrongs(slot), fill{slot, 7, 2, data(9)}) {
				is(t, "Fill", x.Fill(f.slot, f.lba, f.gen, f.data), api.ErrNil)
			}
			unread(t, "Read", x, slot, 7, api.ErrNil)
			is(t, "Free", x.Free(slot), api.ErrNil)
			for range 3 {
				if x.Fault(slot) || x.Bad(slot) {
					t.Fatal("Fault")
				}
			}
			if x.Wear(slot) != 0 {
				t.Fatal("Wear")
			}
			least(t, x, -1, slot)
		}
		least(t, x, -1)
		if x.Len() != 0 || x.Heal() != 0 || x.Total() != 0 {
			t.Fatal("Len, Heal, Total")
		}
	}
}

// bursts are ways to turn bits within 32 in a row.
func bursts() []uint32 {
	return []uint32{1, 3, 5, 1 << 31, 1<<31 | 1, 0xffffffff, 0x80000001, 0xa5a5a5a5, 0x10101, 0xffff, 0xfffe0001}
}

func TestTurnedBits(t *testing.T) { // P16.3, P16.6: of the head, of the data, and of both
	s := shape{2, 1}
	d, _ := s.disk(t)
	x := s.opens(t, d)
	fills(t, x, 1, 7, 2, data(9))
	is(t, "Flush", d.Flush(), api.OK)
	at := s.at(1)
	for bit := range 512 {
		for i, turn := range bursts() {
			head, _ := d.Crash(dev.NewPower())
			if head.Rot(at, bit, turn) != api.OK {
				continue // no bit of it is the sector's
			}
			both, _ := head.Crash(dev.NewPower())
			body, _ := d.Crash(dev.NewPower())
			is(t, "Rot", body.Rot(at+1, bit, turn), api.OK)
			is(t, "Rot", both.Rot(at+1, (bit*5+i)%512, turn|1), api.OK)
			for _, c := range []*dev.Dev{head, body, both} {
				y := s.opens(t, c)
				unread(t, "turned", y, 1, 7, api.ErrSum)
				if c != body {
					unread(t, "turned, of another block", y, 1, 8, api.ErrSum)
					worn(t, "turned", y, 0, 0)
					continue
				}
				unread(t, "turned, of another block", y, 1, 8, api.ErrNone)
				worn(t, "turned", y, 0, 1)
				fills(t, y, 1, 7, 2, data(9))
				reads(t, "filled again", y, 1, 7, data(9), 2)
			}
		}
	}
	reads(t, "whole", x, 1, 7, data(9), 2)
}

// fates goes through all that a crash may keep of what is loose.
func fates(d *dev.Dev, each func(l []int)) {
	loose := d.Loose()
	l := make([]int, len(loose))
	for {
		each(slices.Clone(l))
		i := 0
		for i < len(l) && l[i] == loose[i].Many {
			l[i] = 0
			i++
		}
		if i == len(l) {
			return
		}
		l[i]++
	}
}

func TestCrash(t *testing.T) { // P16.6, P16.7: a slot filled twice, the power gone anywhere, whatever is kept
	s := shape{2, 1}
	for fuse := range 14 {
		for _, flushed := range []bool{false, true} {
			d, p := s.disk(t)
			x := s.opens(t, d)
			fills(t, x, 0, 3, 1, data(3))
			is(t, "Free", x.Free(0), api.OK)
			is(t, "Fuse", p.Fuse(fuse), api.OK)
			first := x.Fill(1, 7, 2, data(1))
			if flushed {
				d.Flush()
			}
			second := x.Fill(1, 7, 3, data(2))
			fates(d, func(l []int) {
				c, e := d.Crash(dev.NewPower(), l...)
				is(t, "Crash", e, api.OK)
				y := s.opens(t, c)
				behindCrash(t, y, first, second)
				unread(t, "freed", y, 0, 3, api.ErrNone)
				if y.Wear(0) != 1 {
					t.Fatal(y.Wear(0))
				}
				n := y.Wear(1)
				fills(t, y, 1, 9, 4, data(4))
				reads(t, "filled", y, 1, 9, data(4), 4)
				worn(t, "filled", y, 1, n+1)
			})
		}
	}
}

// behindCrash asks what slot 1 may tell, if its two fills told that.
func behindCrash(t testing.TB, y *Store, first, second api.Errno) {
	t.Helper()
	told := uint32(0)
	if first == api.OK {
		told = 1
	}
	if second == api.OK {
		told = 2
	}
	if n := y.Wear(1); n < told || n > told+1 || n > 2 {
		t.Fatalf("Wear %d, where %d was told", n, told)
	}
	b, gen, e := y.Read(1, 7)
	switch {
	case e != api.OK && b == nil && gen == 0:
	case e == api.OK && gen == 2 && bytes.Equal(b, data(1)) && first == api.OK && second != api.OK:
	case e == api.OK && gen == 3 && bytes.Equal(b, data(2)) && second == api.OK:
	default:
		t.Fatalf("%d, %d: Read: %x, %d, %d", first, second, b, gen, e)
	}
	another := api.ErrSum
	if y.Wear(1) > 0 {
		another = api.ErrNone
	}
	unread(t, "another block", y, 1, 8, another)
}

func TestCrashKeeps(t *testing.T) { // P16.6: what a fill that told OK left behind a flush is read; unflushed it is there, or the slot is free
	s := shape{2, 1}
	d, _ := s.disk(t)
	x := s.opens(t, d)
	fills(t, x, 1, 7, 2, data(1))
	none, _ := d.Crash(dev.NewPower())
	all, _ := d.Crash(dev.NewPower(), 1)
	unread(t, "nothing kept", s.opens(t, none), 1, 7, api.ErrNone)
	reads(t, "kept", s.opens(t, all), 1, 7, data(1), 2)
	is(t, "Flush", d.Flush(), api.OK)
	none, _ = d.Crash(dev.NewPower())
	reads(t, "flushed", s.opens(t, none), 1, 7, data(1), 2)
}

// filled is what a slot was filled with.
type filled struct {
	slot, lba int
	gen       uint64
	data      string
}

// history is what a random run knows: all fills that were begun, and the wear behind the last ones that told OK.
type history struct {
	fills map[filled]struct{}
	told  [3]uint32
	rot   [3]bool // a head that rots may lose its wear
}

func (h *history) check(t testing.TB, x *Store) {
	t.Helper()
	for slot := range 3 {
		for lba := range 4 {
			b, gen, e := x.Read(slot, lba)
			if e == api.OK {
				if _, ok := h.fills[filled{slot, lba, gen, string(b)}]; !ok {
					t.Fatalf("slot %d, block %d: %x, %d was never filled", slot, lba, b, gen)
				}
			}
		}
		if x.Wear(slot) < h.told[slot] && !h.rot[slot] {
			t.Fatalf("slot %d: wear %d, below %d", slot, x.Wear(slot), h.told[slot])
		}
	}
}

func (h *history) fill(x *Store, r *rand.Rand, n int) {
	f := filled{r.Intn(3), r.Intn(4), uint64(r.Intn(3) + 1), string(data(n))}
	h.fills[f] = struct{}{}
	if x.Fill(f.slot, f.lba, f.gen, []byte(f.data)) == api.OK {
		h.told[f.slot], h.rot[f.slot] = x.Wear(f.slot), false
	}
}

func TestAtRandom(t *testing.T) { // P16.6, P16.7: fills, frees, failures, rot, power that goes, and crashes that keep anything
	for seed := range int64(150) {
		r := rand.New(rand.NewSource(seed))
		s := shape{3, 1}
		d, p := s.disk(t)
		x := s.opens(t, d)
		h := &history{fills: map[filled]struct{}{}}
		for n := range 120 {
			switch r.Intn(9) {
			case 0:
				x.Free(r.Intn(3))
			case 1:
				d.Fail(0, uint64(r.Intn(16)))
			case 2:
				d.Flush()
			case 3:
				slot := r.Intn(3)
				if at := r.Intn(2); d.Rot(s.at(slot)+at, r.Intn(512), r.Uint32()) == api.OK && at == 0 {
					h.rot[slot] = true
				}
			case 4:
				p.Fuse(r.Intn(9))
			case 5:
				var l []int
				for _, loose := range d.Loose() {
					l = append(l, r.Intn(loose.Many+1))
				}
				p = dev.NewPower()
				d, _ = d.Crash(p, l...)
				x = s.opens(t, d)
			default:
				h.fill(x, r, n)
			}
			h.check(t, x)
		}
	}
}

func TestMemory(t *testing.T) { // what is handed in is neither changed nor kept; what is told is new
	s := shape{2, 1}
	d, _ := s.disk(t)
	x := s.opens(t, d)
	long := append(data(9), data(8)...)
	b := long[:64]
	fills(t, x, 1, 7, 2, b)
	if !bytes.Equal(long, append(data(9), data(8)...)) {
		t.Fatal("what was handed in was changed")
	}
	clear(long)
	first, _, _ := x.Read(1, 7)
	second, _, _ := x.Read(1, 7)
	if !bytes.Equal(first, data(9)) {
		t.Fatalf("%x", first)
	}
	clear(first)
	_ = append(first, 1)
	if !bytes.Equal(second, data(9)) {
		t.Fatal("answers share memory")
	}
	reads(t, "read again", x, 1, 7, data(9), 2)
	l := []int{1, 0, 5, -1}
	x.Least(l[:3]...)
	if !slices.Equal(l, []int{1, 0, 5, -1}) {
		t.Fatal(l)
	}
}

func TestSameAgain(t *testing.T) { // two stores of which the same is asked answer alike
	s := shape{3, 2}
	run := func() (all []int) {
		d, _ := s.disk(t)
		x := s.opens(t, d)
		r := rand.New(rand.NewSource(3))
		for n := range 200 {
			d.Fail(uint64(r.Intn(4)), uint64(r.Intn(4)))
			slot, lba := r.Intn(5)-1, r.Intn(3)
			b, gen, e := x.Read(slot, lba)
			all = append(all, int(x.Fill(slot, lba, uint64(r.Intn(3)), data(n))), len(b), int(gen), int(e), int(x.Wear(slot)), int(x.Total()))
			if r.Intn(9) == 0 {
				x.Fault(slot)
			}
			if r.Intn(30) == 0 {
				all = append(all, x.Heal(), int(x.Free(slot)))
			}
			at, _ := x.Least(2, 1, 0)
			all = append(all, at)
		}
		return all
	}
	if a, b := run(), run(); !slices.Equal(a, b) {
		t.Fatal("not alike")
	}
}
