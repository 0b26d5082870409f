package gentab

import (
	"bytes"
	"encoding/binary"
	"hash/crc32"
	"math"
	"math/rand"
	"slices"
	"testing"

	"springhouse/api"
	"springhouse/dev"
	"springhouse/plan"
)

const most = uint64(1) << 62

// sizes are numbers of blocks: with one page and with several, with a last page, and a last extent, that is full or not.
func sizes() []int {
	return []int{1, 7, 8, 9, 47, 48, 49, 60, 96, 97, 150, 511, 512}
}

// extentsOf and pagesOf are worked out without the project's packages.
func extentsOf(blocks int) int { return (blocks + 7) / 8 }
func pagesOf(blocks int) int   { return (extentsOf(blocks) + 5) / 6 }
func backOf(blocks int) int    { return blocks + 2*pagesOf(blocks) }

// copyAt is the sector in which the page with that number stands in that version.
func copyAt(blocks, no int, version uint64) int {
	return blocks + 2*no + int(version%2)
}

func chartOf(t testing.TB, blocks int) plan.Map {
	t.Helper()
	m, e := plan.Of(api.Conf{Blocks: blocks, Slots: 1, Log: 1, Window: 1})
	is(t, "plan.Of", e, api.OK)
	return m
}

func diskOf(t testing.TB, sectors int) (*dev.Dev, *dev.Power) {
	t.Helper()
	p := dev.NewPower()
	d, e := dev.New(sectors, p)
	is(t, "dev.New", e, api.OK)
	return d, p
}

func is(t testing.TB, what string, got, want api.Errno) {
	t.Helper()
	if got != want {
		t.Fatalf("%s: %d, not %d", what, got, want)
	}
}

// sealed is the sector of a page, laid out without the project's packages.
func sealed(p api.GenPage) []byte {
	b := binary.LittleEndian.AppendUint16([]byte{213, 1}, uint16(p.No))
	b = binary.LittleEndian.AppendUint64(b, p.Version)
	for _, gen := range p.Gens {
		b = binary.LittleEndian.AppendUint64(b, gen)
	}
	return binary.LittleEndian.AppendUint32(b, crc32.ChecksumIEEE(b))
}

// sheet is a page all of whose generations are gen.
func sheet(no int, version, gen uint64) api.GenPage {
	return api.GenPage{No: no, Version: version, Gens: [6]uint64{gen, gen, gen, gen, gen, gen}}
}

// junk is a sector that is no page, and unlike at each place.
func junk(at int) []byte {
	b := bytes.Repeat([]byte{byte(at), byte(at>>8) + 77}, 32)
	b[0] = 9
	return b
}

// litter writes junk to all sectors, and fixes it.
func litter(t testing.TB, d *dev.Dev) {
	t.Helper()
	for at := range d.Size() {
		lay(t, d, at, junk(at))
	}
}

// lay writes b to a sector, and fixes it.
func lay(t testing.TB, d *dev.Dev, at int, b []byte) {
	t.Helper()
	is(t, "Write", d.Write(at, b), api.OK)
	is(t, "Flush", d.Flush(), api.OK)
}

// layPage writes a page where it stands.
func layPage(t testing.TB, d *dev.Dev, blocks int, p api.GenPage) {
	t.Helper()
	lay(t, d, copyAt(blocks, p.No, p.Version), sealed(p))
}

func holds(t testing.TB, d *dev.Dev, at int, want []byte) {
	t.Helper()
	if b, ok := d.Peek(at); !ok || !bytes.Equal(b, want) {
		t.Fatalf("sector %d: %x, %t, not %x", at, b, ok, want)
	}
}

// looseAt asks that these sectors have one loose write each, and no others any.
func looseAt(t testing.TB, d *dev.Dev, want ...int) {
	t.Helper()
	var got []int
	for _, l := range d.Loose() {
		if l.Many != 1 {
			t.Fatalf("sector %d has %d loose writes", l.At, l.Many)
		}
		got = append(got, l.At)
	}
	if !slices.Equal(got, want) {
		t.Fatalf("loose: %v, not %v", got, want)
	}
}

// image is what stands in all sectors.
func image(d *dev.Dev) [][]byte {
	var all [][]byte
	for at := range d.Size() {
		b, _ := d.Peek(at)
		all = append(all, b)
	}
	return all
}

func sameImage(t testing.TB, d *dev.Dev, want [][]byte) {
	t.Helper()
	for at, b := range want {
		holds(t, d, at, b)
	}
}

func opened(t testing.TB, d *dev.Dev, m plan.Map) *Table {
	t.Helper()
	x, e := Open(d, m)
	if x == nil || e != api.OK {
		t.Fatalf("Open: %v, %d", x, e)
	}
	return x
}

func refusesOpen(t testing.TB, what string, d *dev.Dev, m plan.Map, want api.Errno) {
	t.Helper()
	if x, e := Open(d, m); x != nil || e != want {
		t.Fatalf("%s: Open: %v, %d, not %d", what, x, e, want)
	}
}

// formatted is a new device with a table on it.
func formatted(t testing.TB, blocks int) (*dev.Dev, *dev.Power, plan.Map, *Table) {
	t.Helper()
	m := chartOf(t, blocks)
	d, p := diskOf(t, backOf(blocks))
	is(t, "Format", Format(d, m), api.OK)
	return d, p, m, opened(t, d, m)
}

// tells asks that the table has just these generations, by each call that tells them.
func tells(t testing.TB, x *Table, want []uint64) {
	t.Helper()
	if all := x.All(); !slices.Equal(all, want) {
		t.Fatalf("All: %v, not %v", all, want)
	}
	for extent, gen := range want {
		if n, ok := x.Get(extent); n != gen || !ok {
			t.Fatalf("Get(%d): %d, %t, not %d", extent, n, ok, gen)
		}
	}
}

func ones(n int) []uint64 { return slices.Repeat([]uint64{1}, n) }

// noExtents are numbers of no extent, where there are n.
func noExtents(n int) []int {
	return []int{math.MinInt, math.MinInt + 1, math.MinInt32, -65536, -64, -8, -6, -2, -1, n, n + 1, n + 6, n + 64, 1 << 16, 1<<31 - 1, 1 << 31, 1 << 32, math.MaxInt - 1, math.MaxInt}
}

func TestFormat(t *testing.T) { // P12.1: each page, fresh, in its second copy, and nothing else
	for _, blocks := range sizes() {
		d, p := diskOf(t, backOf(blocks))
		litter(t, d)
		want := image(d)
		done := p.Done()
		is(t, "Format", Format(d, chartOf(t, blocks)), api.OK)
		for no := range pagesOf(blocks) {
			want[blocks+2*no+1] = sealed(sheet(no, 1, 1))
		}
		sameImage(t, d, want)
		looseAt(t, d)
		if n := p.Done() - done; n != pagesOf(blocks)+1 {
			t.Fatalf("%d blocks: %d writing calls", blocks, n)
		}
		tells(t, opened(t, d, chartOf(t, blocks)), ones(extentsOf(blocks)))
	}
}

func TestFormatFlushesAll(t *testing.T) { // P12.1: what was loose ahead, too
	m := chartOf(t, 60)
	d, _ := diskOf(t, 64)
	is(t, "Write", d.Write(3, junk(3)), api.OK)
	is(t, "Format", Format(d, m), api.OK)
	looseAt(t, d)
	c, _ := d.Crash(dev.NewPower())
	holds(t, c, 3, junk(3))
}

func TestFormatDown(t *testing.T) { // P12.1: the power goes at each writing call: the pages ahead are loose, in order
	for _, blocks := range sizes() {
		pages := pagesOf(blocks)
		for fuse := range pages + 1 {
			d, p := diskOf(t, backOf(blocks))
			is(t, "Fuse", p.Fuse(fuse), api.OK)
			is(t, "Format", Format(d, chartOf(t, blocks)), api.ErrDown)
			var want []int
			for no := range fuse {
				want = append(want, blocks+2*no+1)
			}
			looseAt(t, d, want...)
			if p.Done() != fuse {
				t.Fatalf("%d writing calls, not %d", p.Done(), fuse)
			}
		}
		d, p := diskOf(t, backOf(blocks))
		is(t, "Fuse", p.Fuse(pages+1), api.OK)
		is(t, "Format", Format(d, chartOf(t, blocks)), api.OK)
		p.Cut()
		is(t, "Format", Format(d, chartOf(t, blocks)), api.ErrDown)
	}
}

func TestFormatFails(t *testing.T) { // P12.1: a write that fails is the end of it, and nothing is flushed
	for _, blocks := range sizes() {
		for bad := range pagesOf(blocks) {
			d, p := diskOf(t, backOf(blocks))
			d.Fail(0, 1<<bad)
			is(t, "Format", Format(d, chartOf(t, blocks)), api.ErrIO)
			var want []int
			for no := range bad {
				want = append(want, blocks+2*no+1)
			}
			looseAt(t, d, want...)
			if p.Done() != bad+1 {
				t.Fatalf("%d writing calls, not %d", p.Done(), bad+1)
			}
			is(t, "Format again", Format(d, chartOf(t, blocks)), api.OK)
			tells(t, opened(t, d, chartOf(t, blocks)), ones(extentsOf(blocks)))
		}
		d, _ := diskOf(t, backOf(blocks))
		d.Fail(math.MaxUint64, 1<<pagesOf(blocks)) // reads, and the write behind the last one
		is(t, "Format", Format(d, chartOf(t, blocks)), api.OK)
		is(t, "the write behind it", d.Write(0, junk(0)), api.ErrIO)
		_, e := d.Read(0)
		is(t, "the first read", e, api.ErrIO)
	}
}

func TestFormatFirstError(t *testing.T) { // P12.1: the error that comes first
	for bad := range 3 {
		for fuse := range 5 {
			d, p := diskOf(t, backOf(144))
			is(t, "Fuse", p.Fuse(fuse), api.OK)
			d.Fail(0, 1<<bad)
			want := api.ErrIO
			if fuse <= bad {
				want = api.ErrDown
			}
			is(t, "Format", Format(d, chartOf(t, 144)), want)
		}
	}
}

func TestFormatKeepsGreaterVersions(t *testing.T) { // P12.1: a fresh page is written where it stands, and nowhere else
	d, _, m, x := formatted(t, 9)
	is(t, "Bump", x.Bump(0), api.OK)
	is(t, "Format", Format(d, m), api.OK)
	holds(t, d, 9, sealed(api.GenPage{No: 0, Version: 2, Gens: [6]uint64{2, 1, 1, 1, 1, 1}}))
	holds(t, d, 10, sealed(sheet(0, 1, 1)))
	is(t, "Bump", x.Bump(1), api.OK) // version 3 stands where the fresh one stood
	tells(t, opened(t, d, m), []uint64{2, 2})
}

func TestNoDevice(t *testing.T) { // P12.1: ErrNil, whatever the map is
	for _, m := range []plan.Map{{}, chartOf(t, 1), chartOf(t, 512)} {
		for _, d := range []*dev.Dev{nil, {}, new(dev.Dev)} {
			is(t, "Format", Format(d, m), api.ErrNil)
			refusesOpen(t, "no device", d, m, api.ErrNil)
		}
	}
}

func TestWrongSize(t *testing.T) { // P12.1: ErrArg, and nothing is done; ahead of what the device would tell
	for _, blocks := range sizes() {
		m, back := chartOf(t, blocks), backOf(blocks)
		for _, sectors := range []int{0, 1, 2, back / 2, back - 2, back - 1, back + 1, back + 2, 2 * back, 4096} {
			if sectors == back {
				continue
			}
			for _, cut := range []bool{false, true} {
				d, p := diskOf(t, sectors)
				if cut {
					p.Cut()
				}
				d.Fail(1, 1)
				is(t, "Format", Format(d, m), api.ErrArg)
				refusesOpen(t, "wrong size", d, m, api.ErrArg)
				looseAt(t, d)
				if p.Done() != 0 {
					t.Fatal("a writing call")
				}
				if _, e := d.Read(0); sectors > 0 && !cut && e != api.ErrIO {
					t.Fatal("something was read")
				}
			}
		}
	}
}

func TestZeroMap(t *testing.T) { // P12.1
	for _, sectors := range []int{0, 1, 2, 3, 64, 4096} {
		d, p := diskOf(t, sectors)
		is(t, "Format", Format(d, plan.Map{}), api.ErrArg)
		refusesOpen(t, "zero map", d, plan.Map{}, api.ErrArg)
		p.Cut()
		is(t, "Format", Format(d, plan.Map{}), api.ErrArg)
		refusesOpen(t, "zero map", d, plan.Map{}, api.ErrArg)
		if p.Done() != 0 {
			t.Fatal("a writing call")
		}
	}
}

func TestMapOfACrash(t *testing.T) { // P12.1: a device that Crash made is made
	d, _, m, _ := formatted(t, 60)
	c, _ := d.Crash(dev.NewPower())
	is(t, "Format", Format(c, m), api.OK)
	tells(t, opened(t, c, m), ones(8))
}

func TestOpenDown(t *testing.T) { // P12.1
	d, p, m, _ := formatted(t, 60)
	p.Cut()
	refusesOpen(t, "power off", d, m, api.ErrDown)
}

func TestOpenNeverFormatted(t *testing.T) { // P12.1
	for _, blocks := range sizes() {
		d, p := diskOf(t, backOf(blocks))
		refusesOpen(t, "blank", d, chartOf(t, blocks), api.ErrLost)
		litter(t, d)
		refusesOpen(t, "junk", d, chartOf(t, blocks), api.ErrLost)
		if p.Done() != 2*d.Size() {
			t.Fatal("a writing call")
		}
	}
}

func TestOpenFails(t *testing.T) { // P12.1: both copies of each page are read, once, and nothing else is done
	for _, blocks := range sizes() {
		d, p, m, _ := formatted(t, blocks)
		done, reads := p.Done(), 2*pagesOf(blocks)
		for bad := range reads {
			d.Fail(1<<bad, 0)
			refusesOpen(t, "a read fails", d, m, api.ErrIO)
			d.Fail(3<<bad, 0) // it is the end of it: the next read is none of Open's
			refusesOpen(t, "a read fails", d, m, api.ErrIO)
			_, e := d.Read(0)
			is(t, "the read behind it", e, api.ErrIO)
		}
		d.Fail(1<<reads, math.MaxUint64)
		tells(t, opened(t, d, m), ones(extentsOf(blocks)))
		_, e := d.Read(0)
		is(t, "the read behind it", e, api.ErrIO)
		if p.Done() != done {
			t.Fatal("a writing call")
		}
	}
}

func TestOpenErrorsInOrder(t *testing.T) { // P12.1: page by page: what is read, then whether it is a page's
	d, _, m, _ := formatted(t, 144)
	lay(t, d, 144+2*1+1, junk(1)) // page 1 of three is lost
	for bad, want := range []api.Errno{api.ErrIO, api.ErrIO, api.ErrIO, api.ErrIO, api.ErrLost, api.ErrLost} {
		d.Fail(1<<bad, 0)
		refusesOpen(t, "a page lost", d, m, want)
	}
}

func TestOpenSpoiltCopies(t *testing.T) { // P12.1: one copy spoilt, both spoilt, either way round, of each page
	for _, blocks := range []int{9, 60, 150} {
		for no := range pagesOf(blocks) {
			for _, version := range []uint64{1, 2, 3, 4, most - 1, most} {
				d, _, m, _ := formatted(t, blocks)
				want := ones(extentsOf(blocks))
				fill := func(gen uint64) {
					for at := 6 * no; at < min(6*no+6, len(want)); at++ {
						want[at] = gen
					}
				}
				other := version + 1
				if version == most {
					other = most - 1
				}
				layPage(t, d, blocks, sheet(no, version, 7))
				layPage(t, d, blocks, sheet(no, other, 9))
				newer, elder, ofNewer, ofElder := other, version, uint64(9), uint64(7)
				if version > other {
					newer, elder, ofNewer, ofElder = version, other, 7, 9
				}
				fill(ofNewer)
				tells(t, opened(t, d, m), want)

				one, _ := d.Crash(dev.NewPower())
				lay(t, one, copyAt(blocks, no, newer), junk(no))
				fill(ofElder)
				tells(t, opened(t, one, m), want)

				two, _ := d.Crash(dev.NewPower())
				is(t, "Rot", two.Rot(copyAt(blocks, no, elder), 100, 5), api.OK)
				fill(ofNewer)
				tells(t, opened(t, two, m), want)

				is(t, "Rot", two.Rot(copyAt(blocks, no, newer), 500, 1), api.OK)
				refusesOpen(t, "both spoilt", two, m, api.ErrLost)
				is(t, "Rot", one.Rot(copyAt(blocks, no, elder), 0, 1), api.OK)
				refusesOpen(t, "both spoilt", one, m, api.ErrLost)
			}
		}
	}
}

func TestOpenNewerWhereverItStands(t *testing.T) { // P12.1: the newer one, whichever copy has it; of the same version the first one
	const blocks = 60
	for _, c := range []struct{ first, second, gen uint64 }{{4, 5, 2}, {5, 4, 1}, {5, 5, 1}, {4, 4, 1}, {1, most, 2}, {most, 1, 1}, {3, 2, 1}, {2, 3, 2}} {
		d, _, m, _ := formatted(t, blocks)
		lay(t, d, blocks+2, sealed(sheet(1, c.first, 1<<20+1)))
		lay(t, d, blocks+3, sealed(sheet(1, c.second, 1<<20+2)))
		want := append(ones(6), 1<<20+c.gen, 1<<20+c.gen)
		tells(t, opened(t, d, m), want)
	}
}

func TestOpenOfAnotherPage(t *testing.T) { // P12.1: a page with another number is not this page's
	const blocks = 60
	d, _, m, _ := formatted(t, blocks)
	lay(t, d, blocks, sealed(sheet(1, 2, 5)))
	tells(t, opened(t, d, m), ones(8))
	lay(t, d, blocks+1, sealed(sheet(1, 3, 5)))
	refusesOpen(t, "pages of another number", d, m, api.ErrLost)
}

func TestGet(t *testing.T) { // P12.2: each extent's own, and none beyond the first and the last one
	for _, blocks := range sizes() {
		m := chartOf(t, blocks)
		d, _ := diskOf(t, backOf(blocks))
		var want []uint64
		for no := range pagesOf(blocks) {
			p := api.GenPage{No: no, Version: 6}
			for i := range p.Gens {
				p.Gens[i] = 1000 + uint64(6*no+i)
				want = append(want, p.Gens[i])
			}
			layPage(t, d, blocks, p)
		}
		x := opened(t, d, m)
		tells(t, x, want[:extentsOf(blocks)])
		for _, extent := range noExtents(extentsOf(blocks)) {
			if n, ok := x.Get(extent); n != 0 || ok {
				t.Fatalf("Get(%d) of %d blocks: %d, %t", extent, blocks, n, ok)
			}
		}
	}
}

func TestAllIsNew(t *testing.T) { // P12.2, rule 4
	_, _, _, x := formatted(t, 60)
	all := x.All()
	all[0], all[7] = 99, 99
	tells(t, x, ones(8))
	all = x.All()
	is(t, "Bump", x.Bump(0), api.OK)
	if !slices.Equal(all, ones(8)) {
		t.Fatal(all)
	}
}

func TestExample(t *testing.T) { // P12.3: example 1
	d, p, m, x := formatted(t, 60)
	done := p.Done()
	is(t, "Bump", x.Bump(0, 7, 0), api.OK)
	want := []uint64{2, 1, 1, 1, 1, 1, 1, 2}
	tells(t, x, want)
	if n := p.Done() - done; n != 3 { // two pages, and a flush
		t.Fatalf("%d writing calls", n)
	}
	tells(t, opened(t, d, m), want)
}

func TestNoTable(t *testing.T) { // P12.3: nil, and a Table that Open did not make
	for _, x := range []*Table{nil, {}, new(Table)} {
		for _, l := range [][]int{nil, {}, {0}, {0, 7, 0}, {-1}, {math.MinInt, math.MaxInt}} {
			is(t, "Bump", x.Bump(l...), api.ErrNil)
			if n := x.Pages(l...); n != 0 {
				t.Errorf("Pages: %d", n)
			}
		}
		for _, extent := range append(noExtents(8), 0, 1, 7) {
			if n, ok := x.Get(extent); n != 0 || ok {
				t.Errorf("Get: %d, %t", n, ok)
			}
		}
		if l := x.All(); len(l) != 0 {
			t.Errorf("All: %v", l)
		}
	}
}

func TestPages(t *testing.T) { // P12.3
	_, _, _, x := formatted(t, 150) // 19 extents, 4 pages
	for _, c := range []struct {
		want    int
		extents []int
	}{
		{0, nil}, {0, []int{}}, {1, []int{0}}, {1, []int{18}}, {1, []int{5, 0, 3, 0, 5}}, {2, []int{6, 5}}, {2, []int{0, 18, 0, 18}},
		{4, []int{18, 12, 6, 0}}, {3, []int{17, 11, 12, 10, 5}}, {0, noExtents(19)}, {2, append(noExtents(19), 11, 12, -1)}, {0, []int{19}}, {0, []int{-1}},
		{4, []int{0, 1, 2, 3, 4, 5, 6, 7, 8, 9, 10, 11, 12, 13, 14, 15, 16, 17, 18, 19, 20, 21, 22, 23, 24}},
	} {
		if n := x.Pages(c.extents...); n != c.want {
			t.Errorf("Pages(%v): %d, not %d", c.extents, n, c.want)
		}
	}
	for _, blocks := range sizes() {
		_, _, _, x := formatted(t, blocks)
		var all []int
		for extent := range extentsOf(blocks) {
			all = append(all, extent)
			if n := x.Pages(all...); n != extent/6+1 {
				t.Fatalf("Pages of %d extents: %d", extent+1, n)
			}
		}
	}
}

func TestPagesDoesNothing(t *testing.T) { // P12.3: of a device without power, too
	d, p, _, x := formatted(t, 60)
	before, done := image(d), p.Done()
	p.Cut()
	if n := x.Pages(0, 7); n != 2 || p.Done() != done {
		t.Fatal(n, p.Done())
	}
	sameImage(t, d, before)
	tells(t, x, ones(8))
}

func TestBumpOfNone(t *testing.T) { // P12.3: OK, and nothing is done, whatever state the device is in
	d, p, _, x := formatted(t, 60)
	done := p.Done()
	d.Fail(0, 1)
	is(t, "Write", d.Write(1, junk(1)), api.ErrIO)
	is(t, "Write", d.Write(0, junk(0)), api.OK)
	d.Fail(0, 1)
	is(t, "Bump", x.Bump(), api.OK)
	is(t, "Bump", x.Bump([]int{}...), api.OK)
	looseAt(t, d, 0)
	is(t, "the write behind it", d.Write(1, junk(1)), api.ErrIO)
	p.Cut()
	is(t, "Bump", x.Bump(), api.OK)
	if p.Done() != done+3 {
		t.Fatal("a writing call")
	}
	tells(t, x, ones(8))
}

func TestBumpOfNoExtent(t *testing.T) { // P12.3: ErrRange, wherever it is named, ahead of ErrFull and of what the device tells
	for _, blocks := range []int{1, 9, 48, 60, 512} {
		d, p, m, _ := formatted(t, blocks)
		layPage(t, d, blocks, sheet(0, 2, most))
		x := opened(t, d, m)
		before, done, all := image(d), p.Done(), x.All()
		for _, cut := range []bool{false, true} {
			if cut {
				p.Cut()
			}
			for _, extent := range noExtents(extentsOf(blocks)) {
				for _, l := range [][]int{{extent}, {extent, 0}, {0, extent}, {0, extentsOf(blocks) - 1, extent, 0}, {extent, extent}} {
					is(t, "Bump", x.Bump(l...), api.ErrRange)
				}
			}
		}
		tells(t, x, all)
		sameImage(t, d, before)
		looseAt(t, d)
		if p.Done() != done {
			t.Fatal("a writing call")
		}
	}
}

func TestBumpFull(t *testing.T) { // P12.3: a generation that is MaxGen already, among others that are not
	const blocks = 60
	for full := range 8 {
		d, p, m, _ := formatted(t, blocks)
		s := sheet(full/6, 2, 3)
		s.Gens[full%6] = most
		layPage(t, d, blocks, s)
		x := opened(t, d, m)
		before, done, all := image(d), p.Done(), x.All()
		for other := range 8 {
			for _, l := range [][]int{{full}, {full, other}, {other, full}, {other, other, full, other}, {full, full}} {
				is(t, "Bump", x.Bump(l...), api.ErrFull)
			}
		}
		tells(t, x, all)
		sameImage(t, d, before)
		if p.Done() != done {
			t.Fatal("a writing call")
		}
		for other := range 8 { // its neighbours go on
			if other != full {
				is(t, "Bump", x.Bump(other), api.OK)
				all[other]++
			}
		}
		tells(t, x, all)
		tells(t, opened(t, d, m), all)
		p.Cut()
		is(t, "Bump of a full one without power", x.Bump(full), api.ErrFull)
	}
}

func TestBumpVersionFull(t *testing.T) { // P12.3: a version that is MaxGen already; pages beside it go on
	const blocks = 60
	for full := range 2 {
		d, p, m, _ := formatted(t, blocks)
		layPage(t, d, blocks, sheet(full, most, 3))
		x := opened(t, d, m)
		before, done, all := image(d), p.Done(), x.All()
		for extent := range 8 {
			for other := range 8 {
				if extent/6 == full {
					is(t, "Bump", x.Bump(other, extent, other), api.ErrFull)
					is(t, "Bump", x.Bump(extent, other), api.ErrFull)
				}
			}
		}
		tells(t, x, all)
		sameImage(t, d, before)
		if p.Done() != done {
			t.Fatal("a writing call")
		}
		free := 6 * (1 - full)
		is(t, "Bump", x.Bump(free), api.OK)
		all[free]++
		tells(t, x, all)
	}
}

func TestBumpToTheBound(t *testing.T) { // P12.3: one below MaxGen may still be bumped
	const blocks = 9
	d, _, m, _ := formatted(t, blocks)
	s := sheet(0, most-1, 5)
	s.Gens[1], s.Gens[2], s.Gens[5] = most-1, most, most // 2 and 5 are those of no extent
	layPage(t, d, blocks, s)
	x := opened(t, d, m)
	is(t, "Bump", x.Bump(1), api.OK)
	tells(t, x, []uint64{5, most})
	s.Version, s.Gens[1] = most, most
	holds(t, d, blocks, sealed(s))
	is(t, "Bump", x.Bump(1), api.ErrFull)
	is(t, "Bump", x.Bump(0), api.ErrFull)
	tells(t, opened(t, d, m), []uint64{5, most})
}

func TestBumpOctets(t *testing.T) { // P12.3: the version's copy, and no other sector; named once or often, in any order
	const blocks = 150
	r := rand.New(rand.NewSource(12))
	d, p := diskOf(t, backOf(blocks))
	litter(t, d)
	m := chartOf(t, blocks)
	is(t, "Format", Format(d, m), api.OK)
	pages := make([]api.GenPage, pagesOf(blocks))
	for no := range pages {
		pages[no] = sheet(no, 1, 1)
	}
	x := opened(t, d, m)
	want := image(d)
	for range 400 {
		l := make([]int, 1+r.Intn(7))
		bumped := map[int]bool{}
		for i := range l {
			l[i] = r.Intn(extentsOf(blocks))
			bumped[l[i]] = true
		}
		named := slices.Clone(l)
		touched := map[int]bool{}
		for extent := range bumped {
			pages[extent/6].Gens[extent%6]++
			touched[extent/6] = true
		}
		for no := range touched {
			pages[no].Version++
			want[copyAt(blocks, no, pages[no].Version)] = sealed(pages[no])
		}
		if n := x.Pages(l...); n != len(touched) {
			t.Fatalf("Pages(%v): %d", l, n)
		}
		done := p.Done()
		is(t, "Bump", x.Bump(l...), api.OK)
		if n := p.Done() - done; n != len(touched)+1 {
			t.Fatalf("Bump(%v): %d writing calls", l, n)
		}
		if !slices.Equal(l, named) {
			t.Fatal("what was handed in was changed")
		}
		sameImage(t, d, want)
		looseAt(t, d)
		var all []uint64
		for extent := range extentsOf(blocks) {
			all = append(all, pages[extent/6].Gens[extent%6])
		}
		tells(t, x, all)
		tells(t, opened(t, d, m), all)
	}
}

func TestBumpFlushesAll(t *testing.T) { // P12.3: what was loose ahead, too
	d, _, _, x := formatted(t, 60)
	is(t, "Write", d.Write(3, junk(3)), api.OK)
	is(t, "Bump", x.Bump(7), api.OK)
	looseAt(t, d)
	c, _ := d.Crash(dev.NewPower())
	holds(t, c, 3, junk(3))
}

// orders are ways to name extents of three pages of four (19 extents), whose second copies have version 1.
func orders() [][]int {
	return [][]int{{0, 6, 18}, {18, 6, 0}, {6, 18, 0}, {18, 0, 6, 18, 6}, {7, 0, 18, 5}}
}

func TestBumpDown(t *testing.T) { // P12.3: the power goes at each writing call: rising pages are loose, the table stays as it was
	for _, l := range orders() {
		for fuse := range 4 {
			d, p, _, x := formatted(t, 150)
			is(t, "Fuse", p.Fuse(fuse), api.OK)
			is(t, "Bump", x.Bump(l...), api.ErrDown)
			looseAt(t, d, []int{150, 152, 156}[:fuse]...)
			tells(t, x, ones(19))
			is(t, "Bump", x.Bump(l...), api.ErrDown)
			tells(t, x, ones(19))
		}
		d, p, _, x := formatted(t, 150)
		is(t, "Fuse", p.Fuse(4), api.OK)
		is(t, "Bump", x.Bump(l...), api.OK)
		looseAt(t, d)
		is(t, "Bump", x.Bump(l...), api.ErrDown)
	}
}

func TestBumpFails(t *testing.T) { // P12.3: a write that fails is the end of it; nothing is flushed, the table stays as it was
	for _, l := range orders() {
		for bad := range 3 {
			d, p, m, x := formatted(t, 150)
			done := p.Done()
			d.Fail(math.MaxUint64, 1<<bad)
			is(t, "Bump", x.Bump(l...), api.ErrIO)
			looseAt(t, d, []int{150, 152, 156}[:bad]...)
			if n := p.Done() - done; n != bad+1 {
				t.Fatalf("%d writing calls, not %d", n, bad+1)
			}
			tells(t, x, ones(19))
			d.Fail(0, 0)
			is(t, "Bump again", x.Bump(l...), api.OK)
			want := ones(19)
			for _, extent := range l {
				want[extent] = 2
			}
			tells(t, x, want)
			tells(t, opened(t, d, m), want)
			holds(t, d, 151, sealed(sheet(0, 1, 1)))
		}
		d, _, _, x := formatted(t, 150)
		d.Fail(0, 1<<3) // the write behind the last one
		is(t, "Bump", x.Bump(l...), api.OK)
		is(t, "the write behind it", d.Write(0, junk(0)), api.ErrIO)
	}
}

func TestBumpBehindAFailedOne(t *testing.T) { // P12.3, P12.4: it has the failed one's version, and what that wrote is gone
	d, _, m, x := formatted(t, 60)
	d.Fail(0, 2)
	is(t, "Bump", x.Bump(0, 7), api.ErrIO) // page 0 is loose, page 1 was not written
	is(t, "Bump", x.Bump(7), api.OK)       // which fixes page 0, too
	want := []uint64{1, 1, 1, 1, 1, 1, 1, 2}
	tells(t, x, want)
	c, _ := d.Crash(dev.NewPower())
	tells(t, opened(t, c, m), []uint64{2, 1, 1, 1, 1, 1, 1, 2}) // one more: that of a bump that was not told
	is(t, "Bump", x.Bump(1), api.OK)
	want[1] = 2
	tells(t, x, want)
	holds(t, d, 60, sealed(api.GenPage{No: 0, Version: 2, Gens: [6]uint64{1, 2, 1, 1, 1, 1}}))
	c, _ = d.Crash(dev.NewPower())
	tells(t, opened(t, c, m), want)
}

func TestBumpTwoTables(t *testing.T) { // P12.2: a table has what it was opened with, and its own bumps
	d, _, m, x := formatted(t, 60)
	y := opened(t, d, m)
	is(t, "Bump", x.Bump(0), api.OK)
	tells(t, y, ones(8))
	tells(t, opened(t, d, m), x.All())
}

// eachFate hands on each device that a crash may leave, up to a bound.
func eachFate(t testing.TB, d *dev.Dev, bound int, look func(c *dev.Dev)) {
	t.Helper()
	loose := d.Loose()
	fates := make([]int, len(loose))
	for range bound {
		c, e := d.Crash(dev.NewPower(), fates...)
		is(t, "Crash", e, api.OK)
		look(c)
		at := 0
		for ; at < len(fates); at++ {
			if fates[at]++; fates[at] <= loose[at].Many {
				break
			}
			fates[at] = 0
		}
		if at == len(fates) {
			return
		}
	}
}

// between asks that each generation is as it was told last, or one more, if a bump of it was not told.
func between(t testing.TB, x *Table, told []uint64, open map[int]bool) {
	t.Helper()
	all := x.All()
	if len(all) != len(told) {
		t.Fatal(all)
	}
	for extent, gen := range all {
		if gen != told[extent] && (gen != told[extent]+1 || !open[extent]) {
			t.Fatalf("extent %d: %d, told was %d, a bump open: %t", extent, gen, told[extent], open[extent])
		}
	}
}

func TestCrashInABump(t *testing.T) { // P12.4: the power goes at each write, each way of keeping what was loose
	for _, l := range orders() {
		for ahead := range 3 { // versions that are even, and odd
			for fuse := range 5 {
				d, p, m, x := formatted(t, 150)
				for range ahead {
					is(t, "Bump", x.Bump(l...), api.OK)
				}
				told, open := x.All(), map[int]bool{}
				is(t, "Fuse", p.Fuse(fuse), api.OK)
				want := api.ErrDown
				if fuse == 4 {
					want = api.OK
				}
				is(t, "Bump", x.Bump(l...), want)
				for _, extent := range l {
					open[extent] = want != api.OK
				}
				if want == api.OK {
					told = x.All()
				}
				ways := 0
				eachFate(t, d, 1000, func(c *dev.Dev) {
					ways++
					between(t, opened(t, c, m), told, open)
				})
				if ways != 1<<(fuse%4) {
					t.Fatalf("%d ways", ways)
				}
			}
		}
	}
}

func TestCrashInAFormat(t *testing.T) { // P12.4: one that was not told is done again; one that was told stays
	const blocks = 150
	for fuse := range pagesOf(blocks) + 1 {
		m := chartOf(t, blocks)
		d, p := diskOf(t, backOf(blocks))
		is(t, "Fuse", p.Fuse(fuse), api.OK)
		is(t, "Format", Format(d, m), api.ErrDown)
		eachFate(t, d, 1000, func(c *dev.Dev) {
			is(t, "Format again", Format(c, m), api.OK)
			c, _ = c.Crash(dev.NewPower())
			tells(t, opened(t, c, m), ones(extentsOf(blocks)))
		})
	}
}

// life is a table under whatever happens, with what was told of it.
type life struct {
	d    *dev.Dev
	p    *dev.Power
	x    *Table
	told []uint64
	open map[int]bool // extents of bumps that were not told since the last opening
}

// bump lets some extents go up, and keeps count.
func (w *life) bump(r *rand.Rand, extents int) {
	l := make([]int, 1+r.Intn(4))
	for i := range l {
		l[i] = r.Intn(extents)
	}
	if w.x.Bump(l...) != api.OK {
		for _, extent := range l {
			w.open[extent] = true
		}
		return
	}
	w.told = w.x.All()
	for extent := range extents { // what a bump that was not told left on these pages is written over
		if slices.ContainsFunc(l, func(named int) bool { return named/6 == extent/6 }) {
			delete(w.open, extent)
		}
	}
}

// crash goes on from one of the ways in which the power may go.
func (w *life) crash(t *testing.T, r *rand.Rand, m plan.Map) {
	t.Helper()
	eachFate(t, w.d, 64, func(c *dev.Dev) { between(t, opened(t, c, m), w.told, w.open) })
	var fates []int
	for _, l := range w.d.Loose() {
		fates = append(fates, r.Intn(l.Many+1))
	}
	w.p = dev.NewPower()
	c, e := w.d.Crash(w.p, fates...)
	is(t, "Crash", e, api.OK)
	w.d, w.x = c, opened(t, c, m)
	between(t, w.x, w.told, w.open)
	w.told, w.open = w.x.All(), map[int]bool{}
}

func TestCrashAnywhere(t *testing.T) { // P12.4: bumps, some that fail, some in which the power goes, and crashes behind these
	for seed := range int64(60) {
		r := rand.New(rand.NewSource(seed))
		blocks := []int{9, 60, 100, 150}[r.Intn(4)]
		d, p, m, x := formatted(t, blocks)
		w := &life{d, p, x, x.All(), map[int]bool{}}
		for range 60 {
			switch r.Intn(8) {
			case 0:
				w.crash(t, r, m)
			case 1:
				w.p.Fuse(r.Intn(6))
			case 2:
				w.d.Fail(0, r.Uint64()&r.Uint64())
			case 3:
				w.d.Write(r.Intn(blocks), junk(r.Intn(999)))
			default:
				w.bump(r, extentsOf(blocks))
				tells(t, w.x, w.told)
			}
		}
		w.crash(t, r, m)
	}
}
