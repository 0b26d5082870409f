package invlog

import (
	"bytes"
	"encoding/binary"
	"hash/crc32"
	"math"
	"math/rand"
	"slices"
	"testing"

	"springhouse/api"
	"springhouse/dev"
	"springhouse/plan"
)

const (
	most  = uint64(1) << 62
	start = most - 1<<32 // the greatest number that Open takes
)

// shape is how many sectors a log has, and how many slots there are beside it.
type shape struct{ log, slots int }

// shapes are logs of one sector, of few, of the most; with one leaf a region, and with more.
func shapes() []shape {
	return []shape{{1, 1}, {2, 1}, {3, 4}, {5, 3}, {8, 7}, {255, 1}, {256, 192}}
}

// small are those that have few enough sectors to try all there is.
func small() []shape { return shapes()[:5] }

// at and cache are worked out without the project's packages.
func (s shape) leaves() int       { return (s.slots + 2) / 3 }
func (s shape) at(seq uint64) int { return 2 + 2*s.leaves() + int(seq%uint64(s.log)) }
func (s shape) cache() int        { return 2 + 2*s.leaves() + s.log + 2*s.slots }

func (s shape) chart(t testing.TB) plan.Map {
	t.Helper()
	m, e := plan.Of(api.Conf{Blocks: 9, Slots: s.slots, Log: s.log, Window: 1})
	is(t, "plan.Of", e, api.OK)
	return m
}

// disk is a device as the shape asks for, on which no sector is blank, and none a record's.
func (s shape) disk(t testing.TB) (*dev.Dev, *dev.Power) {
	t.Helper()
	d, p := diskOf(t, s.cache())
	for at := range d.Size() {
		is(t, "Write", d.Write(at, junk(at)), api.OK)
	}
	is(t, "Flush", d.Flush(), api.OK)
	return d, p
}

func diskOf(t testing.TB, sectors int) (*dev.Dev, *dev.Power) {
	t.Helper()
	p := dev.NewPower()
	d, e := dev.New(sectors, p)
	is(t, "dev.New", e, api.OK)
	return d, p
}

func is(t testing.TB, what string, got, want api.Errno) {
	t.Helper()
	if got != want {
		t.Fatalf("%s: %d, not %d", what, got, want)
	}
}

// junk is a sector that is no page, and unlike at each place.
func junk(at int) []byte {
	b := bytes.Repeat([]byte{byte(at), byte(at>>8) + 77}, 32)
	b[0] = 9
	return b
}

// sealed is the sector of a record, laid out without the project's packages, whether it may be or not.
func sealed(r api.Record) []byte { return sealedAs(2, r) }

func sealedAs(kind byte, r api.Record) []byte {
	b := binary.LittleEndian.AppendUint64([]byte{213, kind}, r.Seq)
	b = binary.LittleEndian.AppendUint64(b, r.Epoch)
	b = binary.LittleEndian.AppendUint16(b, uint16(r.Extent))
	b = binary.LittleEndian.AppendUint64(b, r.Gen)
	b = append(b, r.Mask)
	b = append(b, make([]byte, 60-len(b))...)
	return binary.LittleEndian.AppendUint32(b, crc32.ChecksumIEEE(b))
}

// some is a record of that number and epoch, unlike those of other numbers.
func some(seq, epoch uint64) api.Record {
	return api.Record{Seq: seq, Epoch: epoch, Extent: int(seq*7%65521) + 3, Gen: seq%1000 + 5, Mask: byte(seq%255 + 1)}
}

// row is as many records from that number on, all of one epoch.
func row(from uint64, many int, epoch uint64) []api.Record {
	var l []api.Record
	for i := range many {
		l = append(l, some(from+uint64(i), epoch))
	}
	return l
}

// lay writes b to a sector, and fixes it.
func lay(t testing.TB, d *dev.Dev, at int, b []byte) {
	t.Helper()
	is(t, "Write", d.Write(at, b), api.OK)
	is(t, "Flush", d.Flush(), api.OK)
}

// layAll writes records where they stand, and fixes them.
func (s shape) layAll(t testing.TB, d *dev.Dev, l []api.Record) {
	t.Helper()
	for _, r := range l {
		lay(t, d, s.at(r.Seq), sealed(r))
	}
}

// image is what stands in all sectors.
func image(d *dev.Dev) [][]byte {
	var all [][]byte
	for at := range d.Size() {
		b, _ := d.Peek(at)
		all = append(all, b)
	}
	return all
}

func sameImage(t testing.TB, d *dev.Dev, want [][]byte) {
	t.Helper()
	for at, b := range want {
		if got, ok := d.Peek(at); !ok || !bytes.Equal(got, b) {
			t.Fatalf("sector %d: %x, %t, not %x", at, got, ok, b)
		}
	}
}

// state is all that the calls tell of a log.
type state struct {
	first, next, epoch uint64
	room               int
}

func stateOf(l *Log) state { return state{l.First(), l.Next(), l.Epoch(), l.Room()} }

func stands(t testing.TB, what string, l *Log, want state) {
	t.Helper()
	if got := stateOf(l); got != want {
		t.Fatalf("%s: %+v, not %+v", what, got, want)
	}
}

// opens asks that just these records are read, and that the log is as they say.
func (s shape) opens(t testing.TB, what string, d *dev.Dev, from, epoch uint64, want []api.Record) *Log {
	t.Helper()
	l, got, e := Open(d, s.chart(t), from, epoch)
	if l == nil || e != api.OK || !slices.Equal(got, want) {
		t.Fatalf("%s: Open(%d, %d): %t, %+v, %d, not %+v", what, from, epoch, l != nil, got, e, want)
	}
	stands(t, what, l, state{from, from + uint64(len(want)), epoch, s.log - len(want)})
	return l
}

func refuses(t testing.TB, what string, d *dev.Dev, m plan.Map, from, epoch uint64, want api.Errno) {
	t.Helper()
	if l, got, e := Open(d, m, from, epoch); l != nil || len(got) != 0 || e != want {
		t.Fatalf("%s: Open(%d, %d): %t, %+v, %d, not %d", what, from, epoch, l != nil, got, e, want)
	}
}

// appends appends the record, whose number and epoch the log must have.
func appends(t testing.TB, l *Log, r api.Record) {
	t.Helper()
	if l.Next() != r.Seq || l.Epoch() != r.Epoch {
		t.Fatalf("%+v, not %+v", stateOf(l), r)
	}
	is(t, "Append", l.Append(r.Extent, r.Gen, r.Mask), api.OK)
}

func appendsAll(t testing.TB, l *Log, rows []api.Record) {
	t.Helper()
	for _, r := range rows {
		appends(t, l, r)
	}
}

// froms are numbers from which a log of that many sectors may be opened: at the bounds, and at each place of a lap.
func froms(log int) []uint64 {
	l := []uint64{0, 1, start - 1, start}
	for i := range min(log, 9) {
		l = append(l, uint64(1000*log+i))
	}
	return append(l, uint64(1001*log-1))
}

func TestOpenEmpty(t *testing.T) { // P14.1: no records: the next number is the first one, there is room for all
	for _, s := range shapes() {
		d, p := s.disk(t)
		blank, _ := diskOf(t, s.cache())
		before, done := image(d), p.Done()
		for _, from := range froms(s.log) {
			for _, epoch := range []uint64{0, 1, 7, start} {
				s.opens(t, "junk", d, from, epoch, nil)
				s.opens(t, "blank", blank, from, epoch, nil)
			}
		}
		sameImage(t, d, before)
		unwritten(t, d, p, done)
	}
}

func TestOpenReads(t *testing.T) { // P14.1: of each length, from each place of a lap on, past the last sector, too
	for _, s := range shapes() {
		for _, from := range froms(s.log) {
			for _, many := range []int{1, 2, s.log - 1, s.log} {
				if many < 1 || many > s.log {
					continue
				}
				d, p := s.disk(t)
				want := row(from, many, 4)
				s.layAll(t, d, want)
				before, done := image(d), p.Done()
				s.opens(t, "from the first", d, from, 4, want)
				s.opens(t, "in a later epoch", d, from, start, want)
				sameImage(t, d, before)
				unwritten(t, d, p, done)
			}
		}
	}
}

func TestOpenFromOthers(t *testing.T) { // P14.1: from a later record, from one that is behind all, from one ahead of all
	for _, s := range small() {
		for first := uint64(100); first < uint64(100+s.log); first++ {
			for many := range s.log + 1 {
				d, _ := s.disk(t)
				all := row(first, many, 4)
				s.layAll(t, d, all)
				for skip := range many {
					s.opens(t, "a later one", d, first+uint64(skip), 4, all[skip:])
				}
				end := first + uint64(many)
				for _, from := range []uint64{end, end + 1, end + uint64(s.log), end + uint64(10*s.log), first - 1, first - uint64(s.log), 0, start} {
					s.opens(t, "none of these", d, from, 4, nil)
				}
			}
		}
	}
}

func TestOpenOtherLaps(t *testing.T) { // P14.1: where the next one would stand: records of elder laps, and of later ones
	for _, s := range small() {
		for many := range s.log {
			for _, laps := range []int{-9, -2, -1, 1, 2, 9} {
				d, _ := s.disk(t)
				want := row(1000, many, 4)
				s.layAll(t, d, want)
				for i := many; i < s.log; i++ {
					s.layAll(t, d, row(uint64(1000+i+laps*s.log), 1, 4))
				}
				s.opens(t, "another lap", d, 1000, 4, want)
			}
		}
	}
}

func TestOpenOtherNumbers(t *testing.T) { // P14.1: a record that stands where one of its number does not is none
	s := shape{3, 1}
	for place := range uint64(3) {
		for _, seq := range []uint64{0, 98, 99, 100, 101, 102, 103, most} {
			if seq == 99+place {
				continue
			}
			d, _ := s.disk(t)
			s.layAll(t, d, row(99, 3, 4))
			lay(t, d, s.at(99+place), sealed(some(seq, 4)))
			s.opens(t, "another number", d, 99, 4, row(99, int(place), 4))
		}
	}
}

func TestOpenEpochs(t *testing.T) { // P14.1: not below that of the one ahead, of the first one at all, and not above the log's
	s := shape{4, 1}
	for _, c := range []struct {
		epochs []uint64
		epoch  uint64
		many   int
	}{
		{[]uint64{4, 4, 4, 4}, 4, 4}, {[]uint64{1, 2, 3, 4}, 4, 4}, {[]uint64{0, 0, 4, 4}, 4, 4}, {[]uint64{0, 0, 0, 0}, 0, 4},
		{[]uint64{0, 0, 0, 0}, 4, 4}, {[]uint64{3, 3, 3, 3}, start, 4}, {[]uint64{0, start, start, start}, start, 4}, {[]uint64{start, start, start, start}, start, 4},
		{[]uint64{5, 4, 4, 4}, 4, 0}, {[]uint64{5, 5, 5, 5}, 4, 0}, {[]uint64{1, 1, 1, 1}, 0, 0}, {[]uint64{most, most, most, most}, start, 0}, {[]uint64{start + 1, start, 0, 0}, start, 0},
		{[]uint64{4, 5, 5, 5}, 4, 1}, {[]uint64{4, 3, 4, 4}, 4, 1}, {[]uint64{4, 3, 3, 3}, 4, 1}, {[]uint64{1, 0, 1, 1}, 4, 1}, {[]uint64{0, 1, 0, 0}, 0, 1}, {[]uint64{start, start + 1, start, start}, start, 1},
		{[]uint64{2, 3, 2, 3}, 4, 2}, {[]uint64{2, 4, 3, 4}, 4, 2}, {[]uint64{2, 2, 1, 2}, 2, 2}, {[]uint64{2, 4, 5, 4}, 4, 2}, {[]uint64{4, 4, 0, 0}, 4, 2}, {[]uint64{0, 2, 1, 1}, 4, 2},
		{[]uint64{1, 2, 3, 2}, 4, 3}, {[]uint64{1, 2, 3, 4}, 3, 3}, {[]uint64{4, 4, 4, 3}, 4, 3}, {[]uint64{4, 4, 4, 5}, 4, 3}, {[]uint64{1, 3, 3, 2}, 4, 3}, {[]uint64{1, 3, 4, 3}, 4, 3},
	} {
		for _, from := range []uint64{0, 5, 6, 7, start} {
			d, _ := s.disk(t)
			var all []api.Record
			for i, epoch := range c.epochs {
				all = append(all, some(from+uint64(i), epoch))
			}
			s.layAll(t, d, all)
			s.opens(t, "epochs", d, from, c.epoch, all[:c.many])
		}
	}
}

// spoilt are sectors that are no record's, though but little is wrong.
func spoilt(r api.Record) [][]byte {
	turned := sealed(r)
	turned[40] ^= 1
	behind := sealed(r)
	behind[59] = 1
	binary.LittleEndian.PutUint32(behind[60:], crc32.ChecksumIEEE(behind[:60]))
	no := func(change func(r *api.Record)) []byte {
		x := r
		change(&x)
		return sealed(x)
	}
	return [][]byte{make([]byte, 64), junk(3), bytes.Repeat([]byte{255}, 64), sealedAs(1, r), sealedAs(3, r), turned, behind,
		no(func(r *api.Record) { r.Gen = 0 }), no(func(r *api.Record) { r.Gen = most + 1 }), no(func(r *api.Record) { r.Mask = 0 })}
}

func TestOpenNoRecord(t *testing.T) { // P14.1: a sector that is no record, or is spoilt, at each place, the first one, too
	for _, s := range small() {
		for place := range s.log {
			all := row(uint64(50+place), s.log, 4)
			for _, b := range spoilt(all[place]) {
				d, _ := s.disk(t)
				s.layAll(t, d, all)
				lay(t, d, s.at(all[place].Seq), b)
				s.opens(t, "no record", d, all[0].Seq, 4, all[:place])
			}
			d, _ := s.disk(t)
			s.layAll(t, d, all)
			is(t, "Rot", d.Rot(s.at(all[place].Seq), 77*place%500, 9), api.OK)
			s.opens(t, "rotten", d, all[0].Seq, 4, all[:place])
		}
	}
}

func TestOpenBlankIsNotZero(t *testing.T) { // P14.1: what is no record is not taken for one of number 0 and epoch 0
	for _, s := range shapes() {
		d, _ := diskOf(t, s.cache())
		s.opens(t, "blank", d, 0, 0, nil)
		lay(t, d, s.at(0), sealed(api.Record{Gen: 1, Mask: 1}))
		want := []api.Record{{Gen: 1, Mask: 1}}
		s.opens(t, "number 0, epoch 0", d, 0, 0, want)
		d.Fail(1, 0)
		s.opens(t, "that fails", d, 0, 0, nil)
		s.opens(t, "that fails no more", d, 0, 0, want)
	}
}

func TestOpenFails(t *testing.T) { // P14.1: a sector that can't be read is no record, wherever; what is behind it is not read
	for _, s := range small() {
		d, p := s.disk(t)
		all := row(77, s.log, 4)
		s.layAll(t, d, all)
		done := p.Done()
		for bad := range s.log {
			d.Fail(1<<bad, math.MaxUint64)
			s.opens(t, "a read fails", d, 77, 4, all[:bad])
			d.Fail(3<<bad, 0)
			s.opens(t, "two reads fail", d, 77, 4, all[:bad])
			_, e := d.Read(0)
			is(t, "the read behind it", e, api.ErrIO)
			s.opens(t, "none fails", d, 77, 4, all)
		}
		d.Fail(1<<s.log, 0) // as many as the log has sectors, and no more
		s.opens(t, "full", d, 77, 4, all)
		_, e := d.Read(0)
		is(t, "the read behind it", e, api.ErrIO)
		unwritten(t, d, p, done)
	}
}

func TestOpenAsItStands(t *testing.T) { // P14.1: what is loose is read, too
	s := shape{3, 1}
	d, _ := s.disk(t)
	s.layAll(t, d, row(9, 2, 1))
	r := some(11, 1)
	is(t, "Write", d.Write(s.at(11), sealed(r)), api.OK)
	s.opens(t, "loose", d, 9, 1, row(9, 3, 1))
	is(t, "Write", d.Write(s.at(10), junk(1)), api.OK)
	s.opens(t, "loose", d, 9, 1, row(9, 1, 1))
}

func TestOpenIsNew(t *testing.T) { // P14.1, rule 4: what is told may be written on
	s := shape{3, 1}
	d, _ := s.disk(t)
	want := row(9, 2, 1)
	s.layAll(t, d, want)
	l, got, _ := Open(d, s.chart(t), 9, 1)
	got[0], got[1] = api.Record{}, api.Record{}
	stands(t, "a list that was written on", l, state{9, 11, 1, 1})
	s.opens(t, "read anew", d, 9, 1, want)
}

func TestNoDevice(t *testing.T) { // P14.1: ErrNil, whatever the rest is
	for _, d := range []*dev.Dev{nil, {}, new(dev.Dev)} {
		for _, m := range []plan.Map{{}, shape{1, 1}.chart(t), shape{256, 192}.chart(t)} {
			for _, n := range []uint64{0, 1, start, start + 1, math.MaxUint64} {
				refuses(t, "no device", d, m, n, 0, api.ErrNil)
				refuses(t, "no device", d, m, 0, n, api.ErrNil)
				refuses(t, "no device", d, m, n, n, api.ErrNil)
			}
		}
	}
}

// unwritten asks that there was no writing call behind so many.
func unwritten(t testing.TB, d *dev.Dev, p *dev.Power, done int) {
	t.Helper()
	if p.Done() != done || len(d.Loose()) != 0 {
		t.Fatal("a writing call")
	}
}

// untouched asks that nothing was read since Fail(1, 1), either.
func untouched(t testing.TB, d *dev.Dev, p *dev.Power, done int) {
	t.Helper()
	unwritten(t, d, p, done)
	if _, e := d.Read(0); !p.Down() && d.Size() > 0 && e != api.ErrIO {
		t.Fatal("something was read")
	}
}

func TestWrongSize(t *testing.T) { // P14.1: one fewer, one more, and others, with power and without; ahead of what the device would tell
	for _, s := range shapes() {
		m, cache := s.chart(t), s.cache()
		for _, sectors := range []int{0, 1, s.log, m.Plan().Back, m.Plan().SlotAt, cache - s.log, cache - 2, cache - 1, cache, cache + 1, cache + 2, 2 * cache, 4096} {
			for _, cut := range []bool{false, true} {
				d, p := diskOf(t, sectors)
				want := api.ErrArg
				if sectors == cache {
					want = api.OK
				}
				if cut {
					p.Cut()
				}
				if cut && sectors == cache {
					want = api.ErrDown
				}
				if want == api.OK {
					s.opens(t, "right size", d, 3, 1, nil)
					continue
				}
				d.Fail(1, 1)
				refuses(t, "wrong size", d, m, 3, 1, want)
				untouched(t, d, p, 0)
			}
		}
	}
}

func TestZeroMap(t *testing.T) { // P14.1: a device without sectors, too
	for _, sectors := range []int{0, 1, 2, 9, 64, 4096} {
		d, p := diskOf(t, sectors)
		d.Fail(1, 1)
		refuses(t, "zero map", d, plan.Map{}, 0, 0, api.ErrArg)
		untouched(t, d, p, 0)
		p.Cut()
		refuses(t, "zero map", d, plan.Map{}, 0, 0, api.ErrArg)
	}
}

func TestOpenNumbers(t *testing.T) { // P14.1: from and epoch at MaxGen less 2^32, one above it, and far above it
	for _, s := range shapes() {
		m := s.chart(t)
		for _, cut := range []bool{false, true} {
			d, p := diskOf(t, s.cache())
			if cut {
				p.Cut()
			}
			for _, n := range []uint64{start + 1, start + 2, most - 1, most, most + 1, 1<<63 - 1, 1 << 63, math.MaxUint64 - 1, math.MaxUint64} {
				for _, other := range []uint64{0, start, n} {
					d.Fail(1, 1)
					refuses(t, "too great", d, m, n, other, api.ErrArg)
					refuses(t, "too great", d, m, other, n, api.ErrArg)
					untouched(t, d, p, 0)
				}
			}
			d.Fail(0, 0)
			for _, n := range []uint64{0, 1, start - 1, start} {
				for _, other := range []uint64{0, start} {
					if cut {
						refuses(t, "power off", d, m, n, other, api.ErrDown)
						refuses(t, "power off", d, m, other, n, api.ErrDown)
						continue
					}
					s.opens(t, "great", d, n, other, nil)
					s.opens(t, "great", d, other, n, nil)
				}
			}
		}
	}
}

func TestOpenDown(t *testing.T) { // P14.1: the power off: records or none, whatever would fail
	s := shape{3, 1}
	d, p := s.disk(t)
	s.layAll(t, d, row(9, 3, 1))
	p.Cut()
	refuses(t, "power off", d, s.chart(t), 9, 1, api.ErrDown)
	refuses(t, "power off", d, s.chart(t), 90, 0, api.ErrDown)
	d.Fail(math.MaxUint64, math.MaxUint64)
	refuses(t, "power off", d, s.chart(t), 9, 1, api.ErrDown)
	c, _ := d.Crash(dev.NewPower())
	s.opens(t, "another power", c, 9, 1, row(9, 3, 1))
}

func TestExample(t *testing.T) { // P14.2: example 1
	s := shape{2, 1}
	d, p := s.disk(t)
	want := image(d)
	l := s.opens(t, "empty", d, 0, 0, nil)
	appendsAll(t, l, row(0, 2, 0))
	is(t, "Append", l.Append(1, 1, 1), api.ErrFull)
	if !l.Cut(1) {
		t.Fatal("Cut")
	}
	done := p.Done()
	appends(t, l, some(2, 0))
	want[s.at(0)], want[s.at(1)] = sealed(some(2, 0)), sealed(some(1, 0))
	sameImage(t, d, want)
	if p.Done() != done+1 {
		t.Fatal("more than a write")
	}
	s.opens(t, "read anew", d, 1, 0, row(1, 2, 0))
}

func TestAppend(t *testing.T) { // P14.2: the record's sector, and nothing else; laps on laps; nothing is flushed
	for _, s := range shapes() {
		for _, from := range []uint64{0, 1, uint64(5*s.log - 1), start} {
			d, p := s.disk(t)
			want := image(d)
			l := s.opens(t, "empty", d, from, 3, nil)
			for i := range 2*s.log + 3 {
				seq := from + uint64(i)
				if i >= s.log {
					is(t, "Append of a full one", l.Append(1, 1, 1), api.ErrFull)
					if !l.Cut(l.First() + 1) {
						t.Fatal("Cut")
					}
				}
				done, loose := p.Done(), len(d.Loose())
				appends(t, l, some(seq, 3))
				want[s.at(seq)] = sealed(some(seq, 3))
				room := max(0, s.log-i-1)
				stands(t, "appended", l, state{seq + 1 - uint64(s.log-room), seq + 1, 3, room})
				if p.Done() != done+1 || len(d.Loose()) != min(loose+1, s.log) {
					t.Fatalf("%d writing calls, %v loose", p.Done()-done, d.Loose())
				}
			}
			sameImage(t, d, want)
		}
	}
}

func TestAppendBehindOthers(t *testing.T) { // P14.2: a log that was read goes on behind what was read, over what stands there
	for _, s := range small() {
		for many := range s.log + 1 {
			d, _ := s.disk(t)
			all := row(31, many, 2)
			s.layAll(t, d, row(31-uint64(s.log), s.log, 1))
			s.layAll(t, d, all)
			l := s.opens(t, "some", d, 31, 5, all)
			for len(all) < s.log {
				all = append(all, some(31+uint64(len(all)), 5))
				appends(t, l, all[len(all)-1])
				s.opens(t, "read anew", d, 31, 5, all)
			}
			is(t, "Append of a full one", l.Append(1, 1, 1), api.ErrFull)
		}
	}
}

func TestAppendAtBounds(t *testing.T) { // P14.2: the least and the greatest record there may be; extents and generations that the devices have not
	s := shape{8, 1}
	d, _ := s.disk(t)
	l := s.opens(t, "empty", d, start, start, nil)
	all := []api.Record{{Seq: start, Epoch: start, Extent: 0, Gen: 1, Mask: 1}, {Seq: start + 1, Epoch: start, Extent: 65535, Gen: most, Mask: 255},
		{Seq: start + 2, Epoch: start, Extent: 2, Gen: most, Mask: 128}, {Seq: start + 3, Epoch: start, Extent: 65535, Gen: 1, Mask: 1}}
	appendsAll(t, l, all)
	s.opens(t, "read anew", d, start, start, all)
}

// badOnes are what no record may have, each for one reason alone, and a few for more.
func badOnes() []api.Record {
	var l []api.Record
	for _, extent := range []int{math.MinInt, math.MinInt + 1, math.MinInt32, -65536, -65535, -8, -1, 65536, 65537, 1 << 17, 1<<31 - 1, 1 << 32, math.MaxInt - 1, math.MaxInt} {
		l = append(l, api.Record{Extent: extent, Gen: 2, Mask: 1})
	}
	for _, gen := range []uint64{0, most + 1, most + 2, 1<<63 - 1, 1 << 63, math.MaxUint64} {
		l = append(l, api.Record{Extent: 1, Gen: gen, Mask: 1})
	}
	return append(l, api.Record{Extent: 1, Gen: 2}, api.Record{}, api.Record{Extent: -1}, api.Record{Extent: math.MaxInt, Gen: math.MaxUint64})
}

func TestAppendOfNone(t *testing.T) { // P14.2: ErrArg behind ErrFull, ahead of what the device tells; nothing is done
	for _, s := range small() {
		for many := range s.log + 1 {
			d, p := s.disk(t)
			all := row(40, many, 2)
			s.layAll(t, d, all)
			l := s.opens(t, "some", d, 40, 3, all)
			want := api.ErrArg
			if many == s.log {
				want = api.ErrFull
			}
			before, done, was := image(d), p.Done(), stateOf(l)
			for _, cut := range []bool{false, true} {
				if cut {
					p.Cut()
				}
				for _, r := range badOnes() {
					d.Fail(1, 1)
					is(t, "Append", l.Append(r.Extent, r.Gen, r.Mask), want)
					stands(t, "refused", l, was)
					untouched(t, d, p, done)
				}
			}
			sameImage(t, d, before)
			if many == s.log {
				is(t, "Append without room and power", l.Append(1, 1, 1), api.ErrFull)
			} else {
				is(t, "Append without power", l.Append(1, 1, 1), api.ErrDown)
			}
		}
	}
}

func TestAppendFails(t *testing.T) { // P14.2: a write that fails: the log stays as it was, the next one stands where that one would have stood
	for _, s := range small() {
		for many := range s.log {
			for bad := 1; bad < 4; bad++ {
				d, p := s.disk(t)
				all := row(60, many, 2)
				s.layAll(t, d, all)
				l := s.opens(t, "some", d, 60, 2, all)
				was, want := stateOf(l), image(d)
				d.Fail(math.MaxUint64, 1<<bad-1)
				for range bad {
					done := p.Done()
					is(t, "Append", l.Append(9, 9, 9), api.ErrIO)
					stands(t, "failed", l, was)
					sameImage(t, d, want)
					if p.Done() != done+1 {
						t.Fatal("not one writing call")
					}
				}
				r := some(60+uint64(many), 2)
				appends(t, l, r)
				want[s.at(r.Seq)] = sealed(r)
				sameImage(t, d, want)
				d.Fail(0, 0)
				s.opens(t, "read anew", d, 60, 2, append(all, r))
			}
		}
	}
}

func TestAppendDown(t *testing.T) { // P14.2: the power goes, or is gone: the log stays as it was, and can be asked still
	s := shape{5, 1}
	for many := range 5 {
		d, p := s.disk(t)
		l := s.opens(t, "empty", d, 13, 2, nil)
		is(t, "Fuse", p.Fuse(many), api.OK)
		appendsAll(t, l, row(13, many, 2))
		was, want := stateOf(l), image(d)
		for range 3 {
			is(t, "Append", l.Append(1, 1, 1), api.ErrDown)
			stands(t, "without power", l, was)
			sameImage(t, d, want)
		}
		if !l.Cut(13+uint64(many)) || !l.Begin(3) {
			t.Fatal("Cut, Begin")
		}
		stands(t, "cut without power", l, state{13 + uint64(many), 13 + uint64(many), 3, 5})
	}
}

func TestCut(t *testing.T) { // P14.3: to each number from the first one to the next one, and to none else; the device is let be
	for _, s := range shapes() {
		for _, first := range []uint64{1000, 0, start} {
			for _, many := range []int{0, 1, s.log / 2, s.log} {
				d, p := s.disk(t)
				all := row(first, many, 2)
				s.layAll(t, d, all)
				before, done := image(d), p.Done()
				next := first + uint64(many)
				for _, cut := range []int{0, 1, many / 2, many - 1, many} {
					if cut < 0 || cut > many {
						continue
					}
					to := first + uint64(cut)
					l := s.opens(t, "some", d, first, 2, all)
					refusesCuts(t, l, first, next)
					if !l.Cut(to) {
						t.Fatalf("Cut(%d) of %d to %d", to, first, next)
					}
					stands(t, "cut", l, state{to, next, 2, s.log - many + cut})
					refusesCuts(t, l, to, next)
					if !l.Cut(to) || !l.Cut(next) || !l.Cut(next) {
						t.Fatal("Cut again")
					}
					stands(t, "cut whole", l, state{next, next, 2, s.log})
					refusesCuts(t, l, next, next)
				}
				sameImage(t, d, before)
				unwritten(t, d, p, done)
			}
		}
	}
}

// refusesCuts asks that nothing ahead of the first number, or behind the next one, is cut to.
func refusesCuts(t testing.TB, l *Log, first, next uint64) {
	t.Helper()
	was := stateOf(l)
	for _, to := range []uint64{0, first - 1, first - 2, first / 2, next + 1, next + 2, 2*next + 1, most, 1 << 63, math.MaxUint64} {
		if to >= first && to <= next {
			continue
		}
		if l.Cut(to) {
			t.Fatalf("Cut(%d) of %d to %d", to, first, next)
		}
		stands(t, "not cut", l, was)
	}
}

func TestCutGivesRoom(t *testing.T) { // P14.3, P14.2: just as many records come in as went
	for _, s := range small() {
		for cut := range s.log + 1 {
			d, _ := s.disk(t)
			l := s.opens(t, "empty", d, 21, 2, nil)
			appendsAll(t, l, row(21, s.log, 2))
			first := 21 + uint64(cut)
			if !l.Cut(first) || l.Room() != cut {
				t.Fatal(cut, l.Room())
			}
			appendsAll(t, l, row(21+uint64(s.log), cut, 2))
			is(t, "Append of a full one", l.Append(1, 1, 1), api.ErrFull)
			s.opens(t, "read anew", d, first, 2, row(first, s.log, 2))
		}
	}
}

func TestBegin(t *testing.T) { // P14.3: not below what it was, not above MaxGen less 2^32; of what is appended behind it
	s := shape{5, 1}
	for _, epoch := range []uint64{0, 1, 2, 77, start - 1, start} {
		d, p := s.disk(t)
		l := s.opens(t, "empty", d, 8, epoch, nil)
		done := p.Done()
		for _, to := range []uint64{epoch - 1, epoch - 2, epoch / 2, 0, start + 1, start + 2, most, most + 1, 1 << 63, math.MaxUint64} {
			if to >= epoch && to <= start {
				continue
			}
			if l.Begin(to) {
				t.Fatalf("Begin(%d) in %d", to, epoch)
			}
			stands(t, "not begun", l, state{8, 8, epoch, 5})
		}
		now := epoch
		for _, to := range []uint64{epoch, epoch + 1, epoch + 9, start, start} {
			if to > start {
				continue
			}
			if !l.Begin(to) {
				t.Fatalf("Begin(%d) in %d", to, now)
			}
			now = to
			stands(t, "begun", l, state{8, 8, now, 5})
			if now > 0 && l.Begin(now-1) {
				t.Fatalf("Begin(%d) in %d", now-1, now)
			}
		}
		unwritten(t, d, p, done)
	}
}

func TestBeginBetweenRecords(t *testing.T) { // P14.3, P14.1: records of rising epochs are read anew, in the log's epoch, and not in one below
	s := shape{5, 1}
	d, _ := s.disk(t)
	l := s.opens(t, "empty", d, 8, 0, nil)
	var all []api.Record
	for i, epoch := range []uint64{0, 0, 3, 4, start} {
		if !l.Begin(epoch) {
			t.Fatal(epoch)
		}
		all = append(all, some(uint64(8+i), epoch))
		appends(t, l, all[i])
		stands(t, "appended", l, state{8, uint64(9 + i), epoch, 4 - i})
	}
	for _, c := range []struct {
		epoch uint64
		many  int
	}{{0, 2}, {1, 2}, {2, 2}, {3, 3}, {4, 4}, {start - 1, 4}, {start, 5}} {
		s.opens(t, "read anew", d, 8, c.epoch, all[:c.many])
	}
}

func TestNoLog(t *testing.T) { // P14.2, P14.3: nil, and a Log that Open did not make
	for _, l := range []*Log{nil, {}, new(Log)} {
		for _, r := range append(badOnes(), some(0, 0), some(7, 1)) {
			is(t, "Append", l.Append(r.Extent, r.Gen, r.Mask), api.ErrNil)
		}
		for _, n := range []uint64{0, 1, start, start + 1, math.MaxUint64} {
			if l.Cut(n) || l.Begin(n) {
				t.Errorf("Cut, Begin of %d", n)
			}
		}
		stands(t, "no log", l, state{})
	}
}

func TestTwoLogs(t *testing.T) { // P14.1: a log has what it was opened with, and its own records
	s := shape{3, 1}
	d, _ := s.disk(t)
	l := s.opens(t, "empty", d, 6, 1, nil)
	m := s.opens(t, "empty", d, 6, 1, nil)
	appends(t, l, some(6, 1))
	stands(t, "the other one", m, state{6, 6, 1, 3})
	appends(t, m, some(6, 1))
	stands(t, "the first one", l, state{6, 7, 1, 2})
}

// eachFate hands on each device that a crash may leave.
func eachFate(t testing.TB, d *dev.Dev, look func(c *dev.Dev)) int {
	t.Helper()
	loose := d.Loose()
	fates := make([]int, len(loose))
	for ways := 1; ; ways++ {
		c, e := d.Crash(dev.NewPower(), fates...)
		is(t, "Crash", e, api.OK)
		look(c)
		at := 0
		for ; at < len(fates); at++ {
			if fates[at]++; fates[at] <= loose[at].Many {
				break
			}
			fates[at] = 0
		}
		if at == len(fates) {
			return ways
		}
	}
}

// life is a log under whatever happens, with what stands in it.
type life struct {
	s     shape
	d     *dev.Dev
	p     *dev.Power
	l     *Log
	all   []api.Record // from the first one on
	fixed uint64       // the number behind the last one that was flushed
}

func (w *life) first() uint64 { return w.l.First() }

// add appends a record, which may fail.
func (w *life) add() api.Errno {
	r := some(w.l.Next(), w.l.Epoch())
	e := w.l.Append(r.Extent, r.Gen, r.Mask)
	if e == api.OK {
		w.all = append(w.all, r)
	}
	return e
}

func (w *life) flush() {
	if w.d.Flush() == api.OK {
		w.fixed = w.l.Next()
	}
}

func (w *life) cut(n int) {
	if w.l.Cut(w.first() + uint64(n)) {
		w.all = w.all[n:]
	}
}

// lives asks, of each way in which the power may go now, that the first ones of the records are read, all that were flushed among these; and, if it has power, that all are read now.
func (w *life) lives(t testing.TB) int {
	t.Helper()
	least := 0
	if w.fixed > w.first() {
		least = int(w.fixed - w.first())
	}
	if !w.p.Down() {
		w.s.opens(t, "read anew", w.d, w.first(), w.l.Epoch(), w.all)
	}
	return eachFate(t, w.d, func(c *dev.Dev) {
		_, got, e := Open(c, w.s.chart(t), w.first(), w.l.Epoch())
		is(t, "Open", e, api.OK)
		if len(got) < least || len(got) > len(w.all) || !slices.Equal(got, w.all[:len(got)]) {
			t.Fatalf("%d records, of %d, %d of them flushed: %+v", len(got), len(w.all), least, got)
		}
		if len(w.d.Loose()) == 0 && len(got) != len(w.all) {
			t.Fatalf("%d records of a log that was flushed, of %d", len(got), len(w.all))
		}
	})
}

func begun(t testing.TB, s shape, from, epoch uint64) *life {
	t.Helper()
	d, p := s.disk(t)
	return &life{s, d, p, s.opens(t, "empty", d, from, epoch, nil), nil, from}
}

func TestFlushed(t *testing.T) { // P14.4: read anew, a log that was flushed has all its records
	for _, s := range shapes() {
		w := begun(t, s, 5, 1)
		for i := range 2 * s.log {
			if w.l.Room() == 0 {
				w.cut(1 + s.log/3)
			}
			is(t, "Append", w.add(), api.OK)
			if i%7 == 6 || s.log < 9 {
				w.flush()
				c, _ := w.d.Crash(dev.NewPower())
				s.opens(t, "flushed", c, w.first(), 1, w.all)
			}
		}
	}
}

func TestCrash(t *testing.T) { // P14.4: the power goes at each write, each way of keeping what was loose, ahead of a flush and behind it
	s := shape{5, 1}
	for flushed := range 6 { // behind so many a flush
		for fuse := range 7 {
			w := begun(t, s, 13, 1)
			is(t, "Fuse", w.p.Fuse(fuse), api.OK)
			for i := range 5 {
				if i == flushed {
					w.flush()
				}
				w.add()
			}
			if flushed == 5 {
				w.flush()
			}
			records := min(fuse, 5) // those that were done, one writing call each
			loose := records
			if fuse > flushed {
				records = min(fuse-1, 5)
				loose = records - flushed
			}
			if len(w.all) != records {
				t.Fatalf("%d records, not %d", len(w.all), records)
			}
			if ways := w.lives(t); ways != 1<<loose {
				t.Fatalf("%d ways, not 2^%d", ways, loose)
			}
		}
	}
}

func TestCrashOverElderOnes(t *testing.T) { // P14.4: behind a Cut, records that stand where elder ones stood, flushed or not
	s := shape{5, 1}
	for _, elder := range []bool{false, true} { // elder ones flushed
		for cut := 1; cut <= 5; cut++ {
			for fuse := range 7 {
				for flushed := range cut + 1 {
					w := begun(t, s, 13, 1)
					for range 5 {
						is(t, "Append", w.add(), api.OK)
					}
					if elder {
						w.flush()
					}
					w.cut(cut)
					is(t, "Fuse", w.p.Fuse(fuse), api.OK)
					for i := range cut {
						if i == flushed {
							w.flush()
						}
						w.add()
					}
					if flushed == cut {
						w.flush()
					}
					w.lives(t)
				}
			}
		}
	}
}

func TestCrashThenGoOn(t *testing.T) { // P14.4: what a crash left is gone on with, where the last one that was kept ends
	s := shape{4, 1}
	for kept := range 5 {
		w := begun(t, s, 3, 1)
		for range 4 {
			is(t, "Append", w.add(), api.OK)
		}
		var fates []int
		for _, l := range w.d.Loose() {
			fate := 0
			for seq := uint64(3); seq < uint64(3+kept); seq++ {
				if s.at(seq) == l.At {
					fate = 1
				}
			}
			fates = append(fates, fate)
		}
		w.p = dev.NewPower()
		c, e := w.d.Crash(w.p, fates...)
		is(t, "Crash", e, api.OK)
		w.d, w.all, w.fixed = c, w.all[:kept], uint64(3+kept)
		w.l = s.opens(t, "behind a crash", c, 3, 2, w.all)
		for w.l.Room() > 0 {
			is(t, "Append", w.add(), api.OK)
			w.lives(t)
		}
		w.flush()
		w.lives(t)
	}
}

func TestCrashAnywhere(t *testing.T) { // P14.4: long rows of all calls, some that fail, and of each step each way in which the power may go
	for seed := range int64(40) {
		r := rand.New(rand.NewSource(seed))
		s := []shape{{1, 1}, {2, 1}, {3, 4}, {5, 3}}[r.Intn(4)]
		from := []uint64{0, 7, 1000, start - 60}[r.Intn(4)] // each number that it comes to may be opened from
		w := begun(t, s, from, uint64(r.Intn(3)))
		for range 60 {
			switch r.Intn(12) {
			case 0, 1:
				w.flush()
			case 2, 3:
				w.cut(r.Intn(len(w.all) + 1))
			case 4:
				w.l.Begin(w.l.Epoch() + uint64(r.Intn(3)))
			case 5:
				w.d.Fail(0, r.Uint64()&r.Uint64())
			default:
				w.add()
			}
			many := 1
			for _, l := range w.d.Loose() {
				many *= l.Many + 1
			}
			if many > 500 {
				w.flush()
			}
			stands(t, "life", w.l, state{w.first(), w.first() + uint64(len(w.all)), w.l.Epoch(), s.log - len(w.all)})
			w.lives(t)
		}
	}
}

func TestOpenBehindAGap(t *testing.T) { // P14.1: what a crash kept behind a record that it did not keep counts when the gap is filled in an epoch that is not above its own, and not else
	s := shape{3, 1}
	for _, c := range []struct {
		epoch uint64
		want  []api.Record
	}{{2, row(7, 2, 2)}, {3, row(7, 1, 3)}} {
		w := begun(t, s, 7, 2)
		is(t, "Append", w.add(), api.OK)
		is(t, "Append", w.add(), api.OK)
		d, e := w.d.Crash(dev.NewPower(), 0, 1) // 7 stands in the second sector of the log, 8 in the third
		is(t, "Crash", e, api.OK)
		l := s.opens(t, "a gap", d, 7, 2, nil)
		if !l.Begin(c.epoch) {
			t.Fatal("Begin")
		}
		appends(t, l, some(7, c.epoch))
		stands(t, "appended", l, state{7, 8, c.epoch, 2})
		s.opens(t, "the gap filled", d, 7, c.epoch, c.want)
	}
}

// parsed is the record whose sector b is, worked out without the project's packages.
func parsed(b []byte) (api.Record, bool) {
	if b[0] != 213 || b[1] != 2 || binary.LittleEndian.Uint32(b[60:]) != crc32.ChecksumIEEE(b[:60]) {
		return api.Record{}, false
	}
	r := api.Record{Seq: binary.LittleEndian.Uint64(b[2:]), Epoch: binary.LittleEndian.Uint64(b[10:]), Extent: int(binary.LittleEndian.Uint16(b[18:])),
		Gen: binary.LittleEndian.Uint64(b[20:]), Mask: b[28]}
	return r, bytes.Equal(b, sealed(r)) && r.Seq <= most && r.Epoch <= most && r.Gen >= 1 && r.Gen <= most && r.Mask != 0
}

func TestOpenByTheRule(t *testing.T) { // P14.1: sectors of all sorts, held against a slow reading
	r := rand.New(rand.NewSource(14))
	for range 3000 {
		s := small()[r.Intn(5)]
		from, epoch := uint64(20+r.Intn(10)), uint64(r.Intn(4))
		d, _ := s.disk(t)
		for i := range s.log {
			rec := some(from+uint64(i), uint64(r.Intn(3)))
			switch r.Intn(20) {
			case 0:
				rec.Seq += uint64(s.log)
			case 1:
				rec.Seq -= uint64(s.log)
			case 2:
				rec.Mask = 0
			case 3:
				continue
			}
			lay(t, d, s.at(from+uint64(i)), sealed(rec))
		}
		var want []api.Record
		ahead := uint64(0)
		for i := range s.log {
			b, _ := d.Peek(s.at(from + uint64(i)))
			x, ok := parsed(b)
			if !ok || x.Seq != from+uint64(i) || x.Epoch < ahead || x.Epoch > epoch {
				break
			}
			want = append(want, x)
			ahead = x.Epoch
		}
		s.opens(t, "by the rule", d, from, epoch, want)
	}
}
