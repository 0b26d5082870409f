package list

import (
	"math"
	"math/rand"
	"slices"
	"testing"

	"springhouse/api"
)

// outside are numbers that there are not, where there are n of them.
func outside(n int) []int {
	return []int{math.MinInt, math.MinInt + 1, math.MinInt32, -1025, -1024, -17, -16, -2, -1, n, n + 1, n + 2, n + 16, n + 1024, 1 << 32, math.MaxInt - 1024, math.MaxInt - 1, math.MaxInt}
}

func made(t *testing.T, nodes, lists int) *Lists {
	t.Helper()
	x, e := New(nodes, lists)
	if x == nil || e != api.OK {
		t.Fatalf("New(%d, %d): %v, %d", nodes, lists, x, e)
	}
	return x
}

// filled has those nodes in list 0, in that order.
func filled(t *testing.T, nodes, lists int, in ...int) *Lists {
	t.Helper()
	x := made(t, nodes, lists)
	for _, n := range in {
		if !x.Append(0, n) {
			t.Fatalf("Append(0, %d), of %d: false", n, nodes)
		}
	}
	return x
}

func upTo(n int) []int {
	all := make([]int, n)
	for i := range n {
		all[i] = i
	}
	return all
}

// slow are lists as the chapter's words say them: which nodes are in each, in order.
type slow struct {
	nodes int
	lists [][]int
}

func slowOf(nodes, lists int) *slow { return &slow{nodes, make([][]int, lists)} }

func (s *slow) remove(node int) bool {
	for l := range s.lists {
		if i := slices.Index(s.lists[l], node); i >= 0 {
			s.lists[l] = slices.Delete(slices.Clone(s.lists[l]), i, i+1)
			return true
		}
	}
	return false
}

func (s *slow) put(list, node int, first bool) bool {
	if list < 0 || list >= len(s.lists) || node < 0 || node >= s.nodes {
		return false
	}
	s.remove(node)
	if first {
		s.lists[list] = append([]int{node}, s.lists[list]...)
	} else {
		s.lists[list] = append(s.lists[list], node)
	}
	return true
}

func (s *slow) of(node int) (int, bool) {
	for l := range s.lists {
		if slices.Contains(s.lists[l], node) {
			return l, true
		}
	}
	return 0, false
}

func (s *slow) end(list int, first bool) (int, bool) {
	if list < 0 || list >= len(s.lists) || len(s.lists[list]) == 0 {
		return 0, false
	}
	if first {
		return s.lists[list][0], true
	}
	return s.lists[list][len(s.lists[list])-1], true
}

func (s *slow) all(list int) []int {
	if list < 0 || list >= len(s.lists) {
		return nil
	}
	return s.lists[list]
}

// alike holds all that lists answer against the slow ones.
func alike(t *testing.T, x *Lists, s *slow) {
	t.Helper()
	if !x.Right() {
		t.Fatalf("not right: %v", s.lists)
	}
	for _, l := range append(outside(len(s.lists)), upTo(len(s.lists))...) {
		want := s.all(l)
		if got := x.All(l); !slices.Equal(got, want) || x.Len(l) != len(want) {
			t.Fatalf("list %d: %d of length %d, not %d", l, got, x.Len(l), want)
		}
		n, ok := x.Front(l)
		if m, is := s.end(l, true); n != m || ok != is {
			t.Fatalf("Front(%d): %d, %t, not %d, %t", l, n, ok, m, is)
		}
		n, ok = x.Back(l)
		if m, is := s.end(l, false); n != m || ok != is {
			t.Fatalf("Back(%d): %d, %t, not %d, %t", l, n, ok, m, is)
		}
	}
	for _, n := range append(outside(s.nodes), upTo(s.nodes)...) {
		l, ok := x.Of(n)
		if m, is := s.of(n); l != m || ok != is {
			t.Fatalf("Of(%d): %d, %t, not %d, %t", n, l, ok, m, is)
		}
	}
}

func TestNew(t *testing.T) { // P7.1
	for _, nodes := range []int{0, 1, 2, 3, 192, 1023, 1024} {
		for lists := range api.MaxLists + 1 {
			alike(t, made(t, nodes, lists), slowOf(nodes, lists))
		}
	}
	for nodes := range api.MaxNodes + 1 {
		x := made(t, nodes, 1)
		if _, ok := x.Front(0); ok || x.Len(0) != 0 || nodes > 0 && !x.Push(0, nodes-1) || x.Push(0, nodes) {
			t.Errorf("of %d nodes: %d", nodes, x.All(0))
		}
	}
}

func TestNewWrong(t *testing.T) { // P7.1
	for _, nodes := range append(outside(1025), 0, 1, 1024) {
		for _, lists := range append(outside(17), 0, 1, 16) {
			if nodes >= 0 && nodes <= 1024 && lists >= 0 && lists <= 16 {
				made(t, nodes, lists)
			} else if x, e := New(nodes, lists); x != nil || e != api.ErrArg {
				t.Errorf("New(%d, %d): %v, %d", nodes, lists, x, e)
			}
		}
	}
}

func TestNewApart(t *testing.T) { // P7.1
	a, b := filled(t, 4, 2, 1, 3), filled(t, 4, 2)
	if a.Len(0) != 2 || b.Len(0) != 0 || b.Remove(1) || !a.Right() || !b.Right() {
		t.Error(a.All(0), b.All(0))
	}
}

func TestPush(t *testing.T) { // P7.2
	x, s := made(t, 5, 2), slowOf(5, 2)
	for _, p := range [][2]int{{0, 0}, {0, 1}, {0, 4}, {0, 4}, {0, 0}, {1, 1}, {1, 1}, {1, 3}, {0, 3}, {1, 4}, {1, 2}, {0, 1}} {
		if !x.Push(p[0], p[1]) {
			t.Fatalf("Push(%d, %d): false", p[0], p[1])
		}
		s.put(p[0], p[1], true)
		alike(t, x, s)
	}
}

func TestAppend(t *testing.T) { // P7.2
	x, s := made(t, 5, 2), slowOf(5, 2)
	for _, p := range [][2]int{{0, 0}, {0, 1}, {0, 4}, {0, 4}, {0, 0}, {1, 1}, {1, 1}, {1, 3}, {0, 3}, {1, 4}, {1, 2}, {0, 1}} {
		if !x.Append(p[0], p[1]) {
			t.Fatalf("Append(%d, %d): false", p[0], p[1])
		}
		s.put(p[0], p[1], false)
		alike(t, x, s)
	}
}

// TestExample is the chapter's first one.
func TestExample(t *testing.T) { // P7.2
	x := made(t, 3, 1)
	if !x.Push(0, 0) || !x.Push(0, 1) || !x.Append(0, 2) || !slices.Equal(x.All(0), []int{1, 0, 2}) {
		t.Error(x.All(0))
	}
}

func TestAtTheEnds(t *testing.T) { // P7.2
	for _, c := range []struct {
		push bool
		node int
		want []int
	}{
		{true, 5, []int{5, 6, 7}}, {false, 7, []int{5, 6, 7}},
		{true, 7, []int{7, 5, 6}}, {false, 5, []int{6, 7, 5}},
		{true, 6, []int{6, 5, 7}}, {false, 6, []int{5, 7, 6}},
		{true, 0, []int{0, 5, 6, 7}}, {false, 0, []int{5, 6, 7, 0}},
	} {
		x, put := filled(t, 8, 1, 5, 6, 7), (*Lists).Append
		if c.push {
			put = (*Lists).Push
		}
		if !put(x, 0, c.node) || !slices.Equal(x.All(0), c.want) || x.Len(0) != len(c.want) || !x.Right() {
			t.Errorf("%d (push %t): %d, not %d", c.node, c.push, x.All(0), c.want)
		}
	}
}

func TestAlone(t *testing.T) { // P7.2
	for _, put := range []func(*Lists, int, int) bool{(*Lists).Push, (*Lists).Append} {
		x := filled(t, 1, 16, 0)
		for _, l := range []int{0, 0, 15, 15, 0, 7} {
			if !put(x, l, 0) || !slices.Equal(x.All(l), []int{0}) || !x.Right() {
				t.Errorf("the only node in list %d: %d", l, x.All(l))
			}
			for other := range 16 {
				if other != l && x.Len(other) != 0 {
					t.Errorf("it is in %d, too", other)
				}
			}
		}
	}
}

func TestRemove(t *testing.T) { // P7.2
	for _, c := range []struct {
		node int
		want []int
	}{{3, []int{1, 4}}, {1, []int{3, 4}}, {4, []int{3, 1}}} {
		x := filled(t, 5, 1, 3, 1, 4)
		if !x.Remove(c.node) || !slices.Equal(x.All(0), c.want) || x.Len(0) != 2 || !x.Right() {
			t.Errorf("Remove(%d): %d", c.node, x.All(0))
		}
		if _, ok := x.Of(c.node); ok || x.Remove(c.node) || !slices.Equal(x.All(0), c.want) || !x.Right() {
			t.Errorf("Remove(%d) once more: %d", c.node, x.All(0))
		}
	}
	x := filled(t, 3, 1, 2)
	if x.Remove(0) || x.Remove(1) || !x.Remove(2) || x.Remove(2) || x.Len(0) != 0 || !x.Right() {
		t.Error(x.All(0))
	}
	if !x.Push(0, 2) || !x.Append(0, 0) || !slices.Equal(x.All(0), []int{2, 0}) {
		t.Error("put back:", x.All(0))
	}
}

func TestWrongListsAndNodes(t *testing.T) { // P7.2
	for _, size := range [][2]int{{0, 0}, {0, 1}, {0, 16}, {1, 0}, {1, 1}, {9, 3}, {1024, 0}, {1024, 16}} {
		x, s := made(t, size[0], size[1]), slowOf(size[0], size[1])
		for n := range size[0] {
			if size[1] > 0 && n%3 > 0 {
				x.Push(n%size[1], n)
				s.put(n%size[1], n, true)
			}
		}
		for _, l := range append(outside(size[1]), 0, 1, size[1]-1) {
			for _, n := range append(outside(size[0]), 0, 1, size[0]-1) {
				if l >= 0 && l < size[1] && n >= 0 && n < size[0] {
					continue
				}
				if x.Push(l, n) || x.Append(l, n) {
					t.Fatalf("of %d: list %d, node %d: true", size, l, n)
				}
			}
		}
		for _, n := range outside(size[0]) {
			if x.Remove(n) {
				t.Errorf("of %d: Remove(%d): true", size, n)
			}
		}
		alike(t, x, s)
	}
}

func TestFrontBackOfLen(t *testing.T) { // P7.3
	x := filled(t, 1024, 16, 1023, 0, 512)
	x.Append(15, 7)
	if n, ok := x.Front(0); n != 1023 || !ok {
		t.Error(n, ok)
	}
	if n, ok := x.Back(0); n != 512 || !ok {
		t.Error(n, ok)
	}
	for _, end := range []func(int) (int, bool){x.Front, x.Back} {
		if n, ok := end(15); n != 7 || !ok {
			t.Error(n, ok)
		}
		for _, l := range append(outside(16), 1, 14) {
			if n, ok := end(l); n != 0 || ok || x.Len(l) != 0 || len(x.All(l)) != 0 {
				t.Errorf("of list %d: %d, %t", l, n, ok)
			}
		}
	}
	for n, want := range map[int]int{1023: 0, 0: 0, 512: 0, 7: 15} {
		if l, ok := x.Of(n); l != want || !ok {
			t.Errorf("Of(%d): %d, %t", n, l, ok)
		}
	}
	for _, n := range append(outside(1024), 1, 8, 511, 1022) {
		if l, ok := x.Of(n); l != 0 || ok {
			t.Errorf("Of(%d): %d, %t", n, l, ok)
		}
	}
	if x.Len(0) != 3 || x.Len(15) != 1 {
		t.Error(x.Len(0), x.Len(15))
	}
}

func TestAllOfThem(t *testing.T) { // P7.3
	for _, nodes := range []int{0, 1, 2, 1023, 1024} {
		for list := range 16 {
			x, forth := made(t, nodes, 16), upTo(nodes)
			for n := range nodes {
				x.Append(list, n)
			}
			if !slices.Equal(x.All(list), forth) || x.Len(list) != nodes || !x.Right() {
				t.Fatalf("%d nodes appended to %d: %d", nodes, list, x.All(list))
			}
			for n := range nodes {
				x.Push(list, n)
			}
			slices.Reverse(forth)
			if !slices.Equal(x.All(list), forth) || x.Len(list) != nodes || !x.Right() {
				t.Fatalf("%d nodes pushed to %d: %d", nodes, list, x.All(list))
			}
		}
	}
}

func TestAllIsNewMemory(t *testing.T) { // P7.3
	x := filled(t, 4, 1, 2, 0, 3)
	a, b := x.All(0), x.All(0)
	clear(a[:cap(a)])
	if !slices.Equal(b, []int{2, 0, 3}) || !slices.Equal(x.All(0), []int{2, 0, 3}) || !x.Right() {
		t.Error(b, x.All(0))
	}
	_ = append(b, 9)
	x.Push(0, 1)
	if !slices.Equal(b, []int{2, 0, 3}) {
		t.Error(b)
	}
}

// TestLookingChangesNothing asks everything twice.
func TestLookingChangesNothing(t *testing.T) { // P7.3
	x, s := filled(t, 6, 3, 5, 0, 2), slowOf(6, 3)
	for _, n := range []int{5, 0, 2} {
		s.put(0, n, false)
	}
	alike(t, x, s)
	alike(t, x, s)
}

func TestRight(t *testing.T) { // P7.4
	for _, size := range [][2]int{{0, 0}, {0, 16}, {1, 0}, {1, 1}, {1024, 16}} {
		x := made(t, size[0], size[1])
		for n := range size[0] {
			if !x.Right() {
				t.Fatalf("of %d, ahead of node %d", size, n)
			}
			x.Push(n%7, n)
		}
		if !x.Right() {
			t.Errorf("of %d", size)
		}
	}
}

// TestNotRight turns every link and every list's number of lists that are right.
func TestNotRight(t *testing.T) { // P7.4
	whole := func() *Lists {
		x := filled(t, 7, 3, 1, 4, 2)
		x.Append(2, 6)
		x.Append(2, 0)
		return x
	}
	links := whole().ring
	for at := range links {
		for to := -2; to <= len(links)+1; to++ {
			for field := range 3 {
				x := whole()
				one := &x.ring[at]
				*[]*int{&one.prev, &one.next, &one.list}[field] = to
				if x.Right() != (*one == links[at]) {
					t.Errorf("%d: %v for %v: right %t", at, *one, links[at], x.Right())
				}
			}
		}
	}
	bare := made(t, 2, 1) // its head is beside itself, as a node in no list is
	bare.ring[2].list = none
	if bare.Right() {
		t.Error("a head in no list")
	}
	for l := range 3 {
		x := whole()
		x.sizes[l]++
		if x.Right() {
			t.Error("a length of one more in list", l)
		}
	}
	x := whole() // two nodes that fit together, and that no head knows
	x.ring[3], x.ring[5] = link{5, 5, 1}, link{3, 3, 1}
	if x.Right() {
		t.Error("a ring without a head")
	}
	x.sizes[1] = 2
	if x.Right() {
		t.Error("a ring without a head, counted")
	}
	x = whole() // two nodes of one list fit together still if they change places
	x.ring[1], x.ring[4], x.ring[2] = link{4, 2, 0}, link{7, 1, 0}, link{1, 7, 0}
	x.ring[7] = link{2, 4, 0}
	if !x.Right() || !slices.Equal(x.All(0), []int{4, 1, 2}) {
		t.Error(x.All(0))
	}
}

func TestNotMade(t *testing.T) { // P7.4
	for _, x := range []*Lists{nil, {}, new(Lists)} {
		for _, i := range outside(0) {
			for _, j := range outside(0) {
				if x.Push(i, j) || x.Append(i, j) {
					t.Errorf("Push(%d, %d)", i, j)
				}
			}
			if x.Remove(i) || x.Len(i) != 0 || len(x.All(i)) != 0 {
				t.Errorf("of %d", i)
			}
			for _, ask := range []func(int) (int, bool){x.Front, x.Back, x.Of} {
				if n, ok := ask(i); n != 0 || ok {
					t.Errorf("of %d: %d, %t", i, n, ok)
				}
			}
		}
		if !x.Right() {
			t.Error("not right")
		}
	}
}

func TestInOneAtMost(t *testing.T) { // P7.5
	x := made(t, 40, 16)
	r := rand.New(rand.NewSource(7))
	for range 4000 {
		list, node := r.Intn(16), r.Intn(40)
		if r.Intn(2) == 0 {
			x.Push(list, node)
		} else {
			x.Append(list, node)
		}
		seen := map[int]int{}
		for l := range 16 {
			for _, n := range x.All(l) {
				seen[n]++
				if of, ok := x.Of(n); of != l || !ok || seen[n] > 1 {
					t.Fatalf("node %d of list %d: in %d, %t, %d times", n, l, of, ok, seen[n])
				}
			}
		}
		if of, ok := x.Of(node); of != list || !ok {
			t.Fatalf("node %d is in %d, not %d", node, of, list)
		}
	}
}

func TestOthersKeepTheirOrder(t *testing.T) { // P7.5
	without := func(l []int, node int) []int {
		return slices.DeleteFunc(l, func(n int) bool { return n == node })
	}
	x := made(t, 24, 3)
	r := rand.New(rand.NewSource(5))
	for range 4000 {
		list, node, put := r.Intn(3), r.Intn(24), x.Push
		if r.Intn(2) == 0 {
			put = x.Append
		}
		var ahead [3][]int
		for l := range 3 {
			ahead[l] = without(x.All(l), node)
		}
		put(list, node)
		for l := range 3 {
			if !slices.Equal(without(x.All(l), node), ahead[l]) {
				t.Fatalf("node %d to list %d: %d is now %d", node, list, ahead[l], x.All(l))
			}
		}
	}
}

// step does one thing on both, and holds what they tell against each other.
func step(t *testing.T, x *Lists, s *slow, what, list, node int) {
	t.Helper()
	var got, want bool
	switch what % 3 {
	case 0:
		got, want = x.Push(list, node), s.put(list, node, true)
	case 1:
		got, want = x.Append(list, node), s.put(list, node, false)
	default:
		got, want = x.Remove(node), s.remove(node)
	}
	if got != want {
		t.Fatalf("step %d of list %d, node %d: %t", what%3, list, node, got)
	}
}

func TestLongRows(t *testing.T) { // P7.2, P7.3, P7.4, P7.5
	for seed, size := range [][2]int{{1, 1}, {2, 1}, {3, 2}, {10, 16}, {192, 2}, {1024, 16}} {
		r := rand.New(rand.NewSource(int64(seed)))
		x, s := made(t, size[0], size[1]), slowOf(size[0], size[1])
		for i := range 3000 {
			step(t, x, s, r.Intn(5), r.Intn(size[1]+2)-1, r.Intn(size[0]+2)-1)
			if size[0] < 100 || i%250 == 0 {
				alike(t, x, s)
			}
		}
		alike(t, x, s)
	}
}

func FuzzLists(f *testing.F) { // P7.2, P7.3, P7.4, P7.5
	f.Add(3, 1, []byte{0, 0, 0, 1, 0, 2})
	f.Add(1024, 16, []byte{0, 255, 1, 254, 2, 255})
	f.Add(-1, 17, []byte{0, 1})
	f.Fuzz(func(t *testing.T, nodes, lists int, steps []byte) {
		x, e := New(nodes, lists)
		if nodes < 0 || nodes > 1024 || lists < 0 || lists > 16 {
			if x != nil || e != api.ErrArg {
				t.Fatalf("New(%d, %d): %v, %d", nodes, lists, x, e)
			}
			return
		}
		s := slowOf(nodes, lists)
		for ; len(steps) > 1 && len(steps) < 400; steps = steps[2:] {
			step(t, x, s, int(steps[0]>>5), int(steps[0]&31)-1, int(steps[1])-1)
			alike(t, x, s)
		}
	})
}
