package plan

import (
	"math"
	"math/rand"
	"slices"
	"testing"

	"springhouse/api"
)

// thing is one that has a sector: what it is, as Where tells it, and its numbers.
type thing struct {
	what, no, of int
}

// settings are some that may be, with these numbers.
func settings(blocks, slots, log int) api.Conf {
	return api.Conf{Blocks: blocks, Slots: slots, Log: log, Window: 1}
}

func mapOf(t testing.TB, c api.Conf) Map {
	t.Helper()
	m, e := Of(c)
	if e != api.OK {
		t.Fatalf("Of(%+v): %d", c, e)
	}
	return m
}

// backing is the backing device, laid sector by sector.
func backing(c api.Conf) []thing {
	var l []thing
	for lba := range c.Blocks {
		l = append(l, thing{1, lba, 0})
	}
	for page := 0; page*6*8 < c.Blocks; page++ {
		l = append(l, thing{2, page, 0}, thing{2, page, 1})
	}
	return l
}

// caching is the cache device, laid sector by sector.
func caching(c api.Conf) []thing {
	l := []thing{{3, 0, 0}, {3, 1, 0}}
	for region := range 2 {
		for leaf := 0; leaf*3 < c.Slots; leaf++ {
			l = append(l, thing{4, leaf, region})
		}
	}
	for record := range c.Log {
		l = append(l, thing{5, record, 0})
	}
	for slot := range c.Slots {
		l = append(l, thing{6, slot, 0}, thing{7, slot, 0})
	}
	return l
}

// confs are all numbers of blocks, of slots and of sectors of the log that may be, each with some of the others.
func confs() []api.Conf {
	var l []api.Conf
	for n := 1; n <= 512; n++ {
		l = append(l, settings(n, (n-1)%192+1, (n-1)%256+1))
	}
	for n := 1; n <= 192; n++ {
		l = append(l, settings(48, n, 5))
	}
	for n := 1; n <= 256; n++ {
		l = append(l, settings(49, 7, n))
	}
	for _, blocks := range []int{1, 7, 8, 9, 47, 48, 49, 511, 512} {
		for _, slots := range []int{1, 2, 3, 4, 191, 192} {
			for _, log := range []int{1, 2, 255, 256} {
				l = append(l, settings(blocks, slots, log))
			}
		}
	}
	return l
}

// far are ints that are no number of anything, whatever the settings.
func far() []int {
	return []int{math.MinInt, math.MinInt + 1, math.MinInt32, -1 << 16, -4097, -513, -512, -257, -256, -9, -8, -7, -6, -3, -2, -1,
		771, 1024, 4096, 1 << 16, 1<<32 - 1, 1 << 32, 1<<32 + 1, math.MaxInt32, math.MaxInt - 1, math.MaxInt}
}

func TestCheckEdges(t *testing.T) { // P10.1
	good := api.Conf{Blocks: 10, Slots: 4, Log: 5, Window: 3, Budget: 2, Run: 1}
	for _, x := range []struct {
		name        string
		least, most int
		set         func(c *api.Conf, n int)
	}{
		{"Blocks", 1, 512, func(c *api.Conf, n int) { c.Blocks = n }},
		{"Slots", 1, 192, func(c *api.Conf, n int) { c.Slots = n }},
		{"Log", 1, 256, func(c *api.Conf, n int) { c.Log = n }},
		{"Window", 1, 4096, func(c *api.Conf, n int) { c.Window = n }},
		{"Budget", 0, 1048576, func(c *api.Conf, n int) { c.Budget = n }},
		{"Run", 0, 1048576, func(c *api.Conf, n int) { c.Run = n }},
	} {
		may := []int{x.least, x.least + 1, x.most / 2, x.most - 1, x.most}
		mayNot := []int{math.MinInt, math.MinInt + 1, math.MinInt32, -x.most, -2, -1, x.least - 1,
			x.most + 1, 2 * x.most, 1<<32 + 1, math.MaxInt32, math.MaxInt - 1, math.MaxInt}
		for _, n := range may {
			c := good
			x.set(&c, n)
			if e := Check(c); e != api.OK {
				t.Errorf("%s %d: Check: %d", x.name, n, e)
			}
			if m, e := Of(c); e != api.OK || m.Plan() == (api.Plan{}) {
				t.Errorf("%s %d: Of: %+v, %d", x.name, n, m.Plan(), e)
			}
		}
		for _, n := range mayNot {
			c := good
			x.set(&c, n)
			if e := Check(c); e != 100 {
				t.Errorf("%s %d: Check: %d", x.name, n, e)
			}
			if m, e := Of(c); e != 100 || m != (Map{}) || m.Plan() != (api.Plan{}) {
				t.Errorf("%s %d: Of: %+v, %d", x.name, n, m.Plan(), e)
			}
		}
	}
}

func TestCheckAtAllLimits(t *testing.T) { // P10.1
	for _, c := range []api.Conf{
		{Blocks: 1, Slots: 1, Log: 1, Window: 1},
		{Blocks: 512, Slots: 192, Log: 256, Window: 4096, Budget: 1 << 20, Run: 1 << 20},
	} {
		if e := Check(c); e != api.OK {
			t.Errorf("Check(%+v): %d", c, e)
		}
	}
	for _, c := range []api.Conf{
		{},
		{Blocks: 513, Slots: 193, Log: 257, Window: 4097, Budget: 1<<20 + 1, Run: 1<<20 + 1},
		{Blocks: -1, Slots: -1, Log: -1, Window: -1, Budget: -1, Run: -1},
	} {
		if e := Check(c); e != api.ErrConf {
			t.Errorf("Check(%+v): %d", c, e)
		}
	}
}

func TestSettingsThatAreAny(t *testing.T) { // P10.1: Seed, Keep, Margin and Ghost
	floats := []float64{math.NaN(), math.Inf(1), math.Inf(-1), 0, math.Copysign(0, -1), -1, 0.5, 1, 2, math.MaxFloat64, -math.MaxFloat64, math.SmallestNonzeroFloat64}
	plain := mapOf(t, settings(60, 7, 5))
	for _, f := range floats {
		for _, seed := range []uint64{0, 1, 1 << 63, math.MaxUint64} {
			for i := range 4 {
				c := settings(60, 7, 5)
				c.Seed = seed
				for k, p := range []*float64{&c.Keep, &c.Margin, &c.Ghost} {
					if i == k || i == 3 {
						*p = f
					}
				}
				if e := Check(c); e != api.OK {
					t.Errorf("Check(%+v): %d", c, e)
				}
				if m := mapOf(t, c); m != plain {
					t.Errorf("Of(%+v): %+v", c, m.Plan())
				}
				c.Slots = 0
				if e := Check(c); e != api.ErrConf {
					t.Errorf("Check(%+v): %d", c, e)
				}
			}
		}
	}
}

func TestPlanHangsOnThree(t *testing.T) { // P10.1: the other settings move nothing
	for _, x := range [][3]int{{1, 1, 1}, {60, 7, 5}, {512, 192, 256}} {
		c := settings(x[0], x[1], x[2])
		plain := mapOf(t, c).Plan()
		c.Window, c.Budget, c.Run, c.Seed, c.Keep, c.Margin, c.Ghost = 4096, 1<<20, 1<<20, 99, 0.5, 2, 3
		if p := mapOf(t, c).Plan(); p != plain {
			t.Errorf("%v: %+v, not %+v", x, p, plain)
		}
	}
}

func TestPlanExamples(t *testing.T) { // P10.1
	for _, want := range []api.Plan{
		{Blocks: 10, Extents: 2, Pages: 1, GenAt: 10, Back: 12, Leaves: 2, LogAt: 6, Log: 5, SlotAt: 11, Slots: 4, LeafAt: [2]int{2, 4}, Cache: 19},
		{Blocks: 1, Extents: 1, Pages: 1, GenAt: 1, Back: 3, Leaves: 1, LogAt: 4, Log: 1, SlotAt: 5, Slots: 1, LeafAt: [2]int{2, 3}, Cache: 7},
		{Blocks: 8, Extents: 1, Pages: 1, GenAt: 8, Back: 10, Leaves: 1, LogAt: 4, Log: 2, SlotAt: 6, Slots: 3, LeafAt: [2]int{2, 3}, Cache: 12},
		{Blocks: 9, Extents: 2, Pages: 1, GenAt: 9, Back: 11, Leaves: 2, LogAt: 6, Log: 2, SlotAt: 8, Slots: 6, LeafAt: [2]int{2, 4}, Cache: 20},
		{Blocks: 48, Extents: 6, Pages: 1, GenAt: 48, Back: 50, Leaves: 3, LogAt: 8, Log: 1, SlotAt: 9, Slots: 8, LeafAt: [2]int{2, 5}, Cache: 25},
		{Blocks: 49, Extents: 7, Pages: 2, GenAt: 49, Back: 53, Leaves: 3, LogAt: 8, Log: 1, SlotAt: 9, Slots: 9, LeafAt: [2]int{2, 5}, Cache: 27},
		{Blocks: 511, Extents: 64, Pages: 11, GenAt: 511, Back: 533, Leaves: 64, LogAt: 130, Log: 255, SlotAt: 385, Slots: 191, LeafAt: [2]int{2, 66}, Cache: 767},
		{Blocks: 512, Extents: 64, Pages: 11, GenAt: 512, Back: 534, Leaves: 64, LogAt: 130, Log: 256, SlotAt: 386, Slots: 192, LeafAt: [2]int{2, 66}, Cache: 770},
	} {
		if p := mapOf(t, settings(want.Blocks, want.Slots, want.Log)).Plan(); p != want {
			t.Errorf("%+v, not %+v", p, want)
		}
	}
}

func TestPlan(t *testing.T) { // P10.1: against devices that were laid sector by sector
	first := func(l []thing, x thing) int { return slices.Index(l, x) }
	many := func(l []thing, what, of int) int {
		n := 0
		for _, x := range l {
			if x.what == what && x.of == of {
				n++
			}
		}
		return n
	}
	for _, c := range confs() {
		back, cache := backing(c), caching(c)
		want := api.Plan{
			Blocks: c.Blocks, Extents: (c.Blocks + 7) / 8, Pages: many(back, 2, 1), GenAt: first(back, thing{2, 0, 0}), Back: len(back),
			Leaves: many(cache, 4, 1), LogAt: first(cache, thing{5, 0, 0}), Log: c.Log, SlotAt: first(cache, thing{6, 0, 0}), Slots: c.Slots,
			LeafAt: [2]int{first(cache, thing{4, 0, 0}), first(cache, thing{4, 0, 1})},
			Cache:  len(cache),
		}
		if p := mapOf(t, c).Plan(); p != want {
			t.Errorf("%+v: %+v, not %+v", c, p, want)
		}
	}
}

func TestMapsAreApart(t *testing.T) { // P10.1: one map's plan, changed, changes no map
	a, b := mapOf(t, settings(60, 7, 5)), mapOf(t, settings(60, 7, 5))
	p := a.Plan()
	p.LeafAt[0], p.GenAt = 99, 99
	if a != b || a.Plan() != b.Plan() || a.Plan().GenAt != 60 || a.Plan().LeafAt[0] != 2 {
		t.Errorf("%+v, %+v", a.Plan(), b.Plan())
	}
}

func TestZeroMap(t *testing.T) { // P10.1: there is nothing on it
	var m Map
	if p := m.Plan(); p != (api.Plan{}) {
		t.Errorf("Plan: %+v", p)
	}
	for _, n := range append(far(), 0, 1, 2, 3, 4, 5, 6, 7, 8) {
		if a, b, ok := m.Extent(n); a != 0 || b != 0 || ok {
			t.Errorf("Extent(%d): %d, %d, %t", n, a, b, ok)
		}
		if a, b, ok := m.Page(n); a != 0 || b != 0 || ok {
			t.Errorf("Page(%d): %d, %d, %t", n, a, b, ok)
		}
		if a, b, ok := m.Copies(n); a != 0 || b != 0 || ok {
			t.Errorf("Copies(%d): %d, %d, %t", n, a, b, ok)
		}
		if a, ok := m.Commit(n); a != 0 || ok {
			t.Errorf("Commit(%d): %d, %t", n, a, ok)
		}
		if a, ok := m.Log(uint64(n)); a != 0 || ok {
			t.Errorf("Log(%d): %d, %t", uint64(n), a, ok)
		}
		if a, b, ok := m.Slot(n); a != 0 || b != 0 || ok {
			t.Errorf("Slot(%d): %d, %d, %t", n, a, b, ok)
		}
		if w := m.Where(true, n); w != 0 {
			t.Errorf("Where(true, %d): %d", n, w)
		}
		if w := m.Where(false, n); w != 0 {
			t.Errorf("Where(false, %d): %d", n, w)
		}
		for _, k := range append(far(), 0, 1, 2) {
			if l, b := m.Masks(n, k); len(l) != 0 || len(b) != 0 {
				t.Errorf("Masks(%d, %d): %v, %x", n, k, l, b)
			}
			if a, ok := m.Leaf(n, k); a != 0 || ok {
				t.Errorf("Leaf(%d, %d): %d, %t", n, k, a, ok)
			}
		}
	}
}

func TestExtent(t *testing.T) { // P10.2
	for blocks := 1; blocks <= 512; blocks++ {
		m := mapOf(t, settings(blocks, 1, 1))
		extent, place := 0, 0
		for lba := range blocks {
			if a, b, ok := m.Extent(lba); a != extent || b != place || !ok {
				t.Errorf("of %d: Extent(%d): %d, %d, %t, not %d, %d", blocks, lba, a, b, ok, extent, place)
			}
			if place++; place == 8 {
				extent, place = extent+1, 0
			}
		}
		for _, lba := range append(far(), blocks, blocks+1, blocks+8, 2*blocks+7, 513) {
			if a, b, ok := m.Extent(lba); a != 0 || b != 0 || ok {
				t.Errorf("of %d: Extent(%d): %d, %d, %t", blocks, lba, a, b, ok)
			}
		}
	}
}

// masks goes through all blocks, one by one.
func masks(blocks, lba, n int) ([]int, []byte) {
	var extents []int
	var bits []byte
	for b := range blocks {
		// From a block that is not behind b, the way to b is no more than the greatest uint64.
		if n < 1 || lba > b || uint64(b)-uint64(lba) >= uint64(n) {
			continue
		}
		if len(extents) == 0 || extents[len(extents)-1] != b/8 {
			extents, bits = append(extents, b/8), append(bits, 0)
		}
		bits[len(bits)-1] |= 1 << (b % 8)
	}
	return extents, bits
}

func holdMasks(t testing.TB, m Map, lba, n int) {
	t.Helper()
	wantExtents, wantBits := masks(m.Plan().Blocks, lba, n)
	extents, bits := m.Masks(lba, n)
	if !slices.Equal(extents, wantExtents) || !slices.Equal(bits, wantBits) {
		t.Errorf("of %d: Masks(%d, %d): %v, %x, not %v, %x", m.Plan().Blocks, lba, n, extents, bits, wantExtents, wantBits)
	}
}

func TestMasksExamples(t *testing.T) { // P10.2
	m := mapOf(t, settings(60, 7, 5))
	for _, x := range []struct {
		lba, n  int
		extents []int
		bits    string
	}{
		{0, 0, nil, ""},
		{0, 1, []int{0}, "\x01"},
		{0, 8, []int{0}, "\xff"},
		{0, 9, []int{0, 1}, "\xff\x01"},
		{3, 2, []int{0}, "\x18"},
		{7, 1, []int{0}, "\x80"},
		{7, 2, []int{0, 1}, "\x80\x01"},
		{8, 8, []int{1}, "\xff"},
		{6, 4, []int{0, 1}, "\xc0\x03"},
		{12, 20, []int{1, 2, 3}, "\xf0\xff\xff"},
		{59, 1, []int{7}, "\x08"},
		{58, 9, []int{7}, "\x0c"},
		{60, 1, nil, ""},
		{59, 0, nil, ""},
		{59, -1, nil, ""},
		{-1, 1, nil, ""},
		{-1, 2, []int{0}, "\x01"},
		{-8, 17, []int{0, 1}, "\xff\x01"},
		{0, 60, []int{0, 1, 2, 3, 4, 5, 6, 7}, "\xff\xff\xff\xff\xff\xff\xff\x0f"},
		{0, 61, []int{0, 1, 2, 3, 4, 5, 6, 7}, "\xff\xff\xff\xff\xff\xff\xff\x0f"},
		{math.MinInt, math.MaxInt, nil, ""},
		{-math.MaxInt, math.MaxInt, nil, ""},
		{2 - math.MaxInt, math.MaxInt, []int{0}, "\x03"},
		{54, math.MaxInt, []int{6, 7}, "\xc0\x0f"},
		{math.MaxInt, math.MaxInt, nil, ""},
		{math.MinInt, math.MinInt, nil, ""},
		{59, math.MinInt, nil, ""},
	} {
		extents, bits := m.Masks(x.lba, x.n)
		if !slices.Equal(extents, x.extents) || string(bits) != x.bits {
			t.Errorf("Masks(%d, %d): %v, %x, not %v, %x", x.lba, x.n, extents, bits, x.extents, x.bits)
		}
	}
}

func TestMasks(t *testing.T) { // P10.2
	for blocks := 1; blocks <= 26; blocks++ {
		m := mapOf(t, settings(blocks, 1, 1))
		for lba := -10; lba <= blocks+10; lba++ {
			for n := -2; n <= blocks+22; n++ {
				holdMasks(t, m, lba, n)
			}
		}
	}
	r := rand.New(rand.NewSource(10))
	for range 4000 {
		m := mapOf(t, settings(1+r.Intn(512), 1, 1))
		holdMasks(t, m, r.Intn(600)-40, r.Intn(600)-10)
	}
}

func TestMasksFar(t *testing.T) { // P10.2: what lies beyond any int is no block
	for _, blocks := range []int{1, 7, 8, 9, 48, 49, 511, 512} {
		m := mapOf(t, settings(blocks, 1, 1))
		ends := append(far(), 0, 1, 2, 7, 8, 9, blocks-1, blocks, blocks+1, 2-math.MaxInt, -math.MaxInt+blocks-1, -math.MaxInt+blocks)
		for _, lba := range ends {
			for _, n := range ends {
				holdMasks(t, m, lba, n)
			}
		}
	}
}

func TestMasksTogether(t *testing.T) { // P10.2: extents rise, no mask is 0, and Extent tells the same of each block
	for _, blocks := range []int{1, 8, 9, 60, 512} {
		m := mapOf(t, settings(blocks, 1, 1))
		extents, bits := m.Masks(math.MinInt/2, math.MaxInt)
		if len(extents) != m.Plan().Extents || len(bits) != len(extents) {
			t.Fatalf("of %d: %v, %x", blocks, extents, bits)
		}
		for lba := range blocks {
			extent, place, _ := m.Extent(lba)
			if extents[extent] != extent || bits[extent]>>place&1 != 1 {
				t.Errorf("of %d: block %d is not in %v, %x", blocks, lba, extents, bits)
			}
			l, b := m.Masks(lba, 1)
			if len(l) != 1 || len(b) != 1 || l[0] != extent || b[0] != 1<<place {
				t.Errorf("of %d: Masks(%d, 1): %v, %x", blocks, lba, l, b)
			}
		}
	}
}

func TestMasksNewMemory(t *testing.T) { // P10.2
	m := mapOf(t, settings(60, 7, 5))
	extents, bits := m.Masks(0, 60)
	extents, bits = extents[:cap(extents)], bits[:cap(bits)]
	for i := range extents {
		extents[i] = 99
	}
	for i := range bits {
		bits[i] = 99
	}
	holdMasks(t, m, 0, 60)
}

func TestPage(t *testing.T) { // P10.3
	for _, blocks := range []int{1, 8, 9, 40, 41, 47, 48, 49, 56, 57, 96, 97, 504, 505, 511, 512} {
		m := mapOf(t, settings(blocks, 1, 1))
		page, place := 0, 0
		for extent := range (blocks + 7) / 8 {
			if a, b, ok := m.Page(extent); a != page || b != place || !ok {
				t.Errorf("of %d: Page(%d): %d, %d, %t, not %d, %d", blocks, extent, a, b, ok, page, place)
			}
			if place++; place == 6 {
				page, place = page+1, 0
			}
		}
		extents := (blocks + 7) / 8
		for _, extent := range append(far(), extents, extents+1, extents+6, 65, 66) {
			if a, b, ok := m.Page(extent); a != 0 || b != 0 || ok {
				t.Errorf("of %d: Page(%d): %d, %d, %t", blocks, extent, a, b, ok)
			}
		}
	}
}

func TestCopies(t *testing.T) { // P10.3
	for blocks := 1; blocks <= 512; blocks++ {
		m := mapOf(t, settings(blocks, 1, 1))
		back := backing(settings(blocks, 1, 1))
		pages := 0
		for pages*48 < blocks {
			a, b, ok := m.Copies(pages)
			if !ok || a != slices.Index(back, thing{2, pages, 0}) || b != slices.Index(back, thing{2, pages, 1}) {
				t.Errorf("of %d: Copies(%d): %d, %d, %t", blocks, pages, a, b, ok)
			}
			pages++
		}
		for _, page := range append(far(), pages, pages+1, 11, 12) {
			if a, b, ok := m.Copies(page); a != 0 || b != 0 || ok {
				t.Errorf("of %d: Copies(%d): %d, %d, %t", blocks, page, a, b, ok)
			}
		}
	}
}

func TestCommit(t *testing.T) { // P10.3
	for _, c := range confs() {
		m := mapOf(t, c)
		for region := range 2 {
			if a, ok := m.Commit(region); a != region || !ok {
				t.Errorf("%+v: Commit(%d): %d, %t", c, region, a, ok)
			}
		}
		for _, region := range append(far(), 2, 3, 4) {
			if a, ok := m.Commit(region); a != 0 || ok {
				t.Errorf("%+v: Commit(%d): %d, %t", c, region, a, ok)
			}
		}
	}
}

func TestLeaf(t *testing.T) { // P10.3
	for slots := 1; slots <= 192; slots++ {
		c := settings(9, slots, 5)
		m, cache, leaves := mapOf(t, c), caching(c), (slots+2)/3
		for region := range 2 {
			for no := range leaves {
				if a, ok := m.Leaf(region, no); !ok || a != slices.Index(cache, thing{4, no, region}) {
					t.Errorf("of %d: Leaf(%d, %d): %d, %t", slots, region, no, a, ok)
				}
			}
			for _, no := range append(far(), leaves, leaves+1, 64, 65) {
				if a, ok := m.Leaf(region, no); a != 0 || ok {
					t.Errorf("of %d: Leaf(%d, %d): %d, %t", slots, region, no, a, ok)
				}
			}
		}
		for _, region := range append(far(), 2, 3) {
			for _, no := range []int{math.MinInt, -1, 0, leaves - 1, leaves, math.MaxInt} {
				if a, ok := m.Leaf(region, no); a != 0 || ok {
					t.Errorf("of %d: Leaf(%d, %d): %d, %t", slots, region, no, a, ok)
				}
			}
		}
	}
}

func TestLog(t *testing.T) { // P10.3: each number is some record's
	for log := 1; log <= 256; log++ {
		c := settings(9, 4, log)
		m, at := mapOf(t, c), slices.Index(caching(c), thing{5, 0, 0})
		place := 0
		for seq := range uint64(3*log + 1) {
			if a, ok := m.Log(seq); a != at+place || !ok {
				t.Errorf("of %d: Log(%d): %d, %t, not %d", log, seq, a, ok, at+place)
			}
			if place++; place == log {
				place = 0
			}
		}
	}
}

func TestLogFar(t *testing.T) { // P10.3: rests that were worked out without the program
	for _, x := range []struct {
		log  int
		seq  uint64
		rest int
	}{
		{1, math.MaxUint64, 0},
		{2, math.MaxUint64, 1},
		{3, math.MaxUint64, 0},
		{5, math.MaxUint64, 0},
		{7, math.MaxUint64, 1},
		{10, math.MaxUint64, 5},
		{100, math.MaxUint64, 15},
		{255, math.MaxUint64, 0},
		{256, math.MaxUint64, 255},
		{7, math.MaxUint64 - 1, 0},
		{7, 1 << 63, 1},
		{7, 1<<63 - 1, 0},
		{7, 1 << 62, 4},
		{10, 1 << 63, 8},
		{100, 1 << 63, 8},
		{256, 1 << 63, 0},
		{100, 1<<32 + 4, 0},
	} {
		m := mapOf(t, settings(9, 4, x.log))
		if a, ok := m.Log(x.seq); a != 6+x.rest || !ok {
			t.Errorf("of %d: Log(%d): %d, %t, not %d", x.log, x.seq, a, ok, 6+x.rest)
		}
	}
}

func TestSlot(t *testing.T) { // P10.3
	for slots := 1; slots <= 192; slots++ {
		c := settings(9, slots, 5)
		m, cache := mapOf(t, c), caching(c)
		for slot := range slots {
			a, b, ok := m.Slot(slot)
			if !ok || a != slices.Index(cache, thing{6, slot, 0}) || b != slices.Index(cache, thing{7, slot, 0}) {
				t.Errorf("of %d: Slot(%d): %d, %d, %t", slots, slot, a, b, ok)
			}
		}
		for _, slot := range append(far(), slots, slots+1, 192, 193) {
			if a, b, ok := m.Slot(slot); a != 0 || b != 0 || ok {
				t.Errorf("of %d: Slot(%d): %d, %d, %t", slots, slot, a, b, ok)
			}
		}
	}
}

func TestWhere(t *testing.T) { // P10.4
	for _, c := range confs() {
		m := mapOf(t, c)
		for i, device := range [][]thing{backing(c), caching(c)} {
			cache := i == 1
			for at, x := range device {
				if w := m.Where(cache, at); w != x.what {
					t.Errorf("%+v: Where(%t, %d): %d, not %d", c, cache, at, w, x.what)
				}
			}
			for _, at := range append(far(), len(device), len(device)+1) {
				if w := m.Where(cache, at); w != 0 {
					t.Errorf("%+v: Where(%t, %d): %d", c, cache, at, w)
				}
			}
		}
	}
}

func TestWhereExample(t *testing.T) { // P10.4: of 10 blocks, 4 slots, a log of 5
	m := mapOf(t, settings(10, 4, 5))
	for i, want := range [][]int{
		{1, 1, 1, 1, 1, 1, 1, 1, 1, 1, 2, 2, 0},
		{3, 3, 4, 4, 4, 4, 5, 5, 5, 5, 5, 6, 7, 6, 7, 6, 7, 6, 7, 0},
	} {
		for at, w := range want {
			if got := m.Where(i == 1, at); got != w {
				t.Errorf("Where(%t, %d): %d, not %d", i == 1, at, got, w)
			}
		}
	}
}

// owners counts what the map's calls lay in each sector of both devices, and asks Where about each.
func owners(t testing.TB, m Map) (back, cache []int) {
	t.Helper()
	p := m.Plan()
	back, cache = make([]int, p.Back), make([]int, p.Cache)
	on := func(device []int, isCache bool, what, at int, ok bool) {
		if !ok || at < 0 || at >= len(device) || m.Where(isCache, at) != what {
			t.Fatalf("%+v: %d at %d, %t", p, what, at, ok)
		}
		device[at]++
	}
	for lba := range p.Blocks {
		on(back, false, 1, lba, true)
	}
	for page := range p.Pages {
		a, b, ok := m.Copies(page)
		on(back, false, 2, a, ok)
		on(back, false, 2, b, ok)
	}
	for region := range 2 {
		at, ok := m.Commit(region)
		on(cache, true, 3, at, ok)
		for no := range p.Leaves {
			at, ok := m.Leaf(region, no)
			on(cache, true, 4, at, ok)
		}
	}
	for seq := range p.Log {
		at, ok := m.Log(uint64(seq))
		on(cache, true, 5, at, ok)
	}
	for slot := range p.Slots {
		a, b, ok := m.Slot(slot)
		on(cache, true, 6, a, ok)
		on(cache, true, 7, b, ok)
	}
	return back, cache
}

func TestEachSectorIsOnesOnly(t *testing.T) { // P10.5
	for _, c := range confs() {
		m := mapOf(t, c)
		back, cache := owners(t, m)
		if len(back) > 4096 || len(cache) > 4096 {
			t.Errorf("%+v: %d and %d sectors are more than a device has", c, len(back), len(cache))
		}
		for i, device := range [][]int{back, cache} {
			for at, many := range device {
				if many != 1 {
					t.Errorf("%+v: sector %d of %d is that of %d things", c, at, i, many)
				}
			}
		}
	}
}

func TestEachExtentHasItsPlace(t *testing.T) { // P10.5: no two extents stand at one place of one page, no two blocks at one of an extent
	for _, c := range confs() {
		m := mapOf(t, c)
		p := m.Plan()
		seen := map[[2]int]int{}
		for extent := range p.Extents {
			page, place, ok := m.Page(extent)
			if !ok || page < 0 || page >= p.Pages || place < 0 || place > 5 {
				t.Errorf("%+v: Page(%d): %d, %d, %t", c, extent, page, place, ok)
			}
			seen[[2]int{page, place}]++
		}
		if len(seen) != p.Extents {
			t.Errorf("%+v: %d places of %d extents", c, len(seen), p.Extents)
		}
		clear(seen)
		for lba := range p.Blocks {
			extent, place, ok := m.Extent(lba)
			if !ok || extent < 0 || extent >= p.Extents || place < 0 || place > 7 {
				t.Errorf("%+v: Extent(%d): %d, %d, %t", c, lba, extent, place, ok)
			}
			seen[[2]int{extent, place}]++
		}
		if len(seen) != p.Blocks {
			t.Errorf("%+v: %d places of %d blocks", c, len(seen), p.Blocks)
		}
	}
}
