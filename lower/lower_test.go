package lower_test

import (
	"math"
	"runtime/debug"
	"slices"
	"testing"

	"triforium/api"
	"triforium/canon"
	"triforium/lift"
	"triforium/lower"
	"triforium/state"
)

// The chapters' numbers, in digits: a limit that is changed in api would be told here.
const (
	maxSemi   = 32768
	maxLarge  = 32768
	maxSlots  = 1024
	maxFields = 4096
	maxRaws   = 4096
	maxImm    = 2305843009213693951
	minImm    = -2305843009213693952
)

func sp(at, size int) api.Span { return api.Span{At: at, Size: size} }

func spans(l ...api.Span) []api.Span { return l }

func cfg(semi, large, slots, limit int) api.Config {
	return api.Config{Semi: semi, Large: large, Slots: slots, Limit: limit}
}

func val(kind int, x int64) api.Val { return api.Val{Kind: kind, X: x} }

func imm(x int64) api.Val { return val(1, x) }

func ref(x int64) api.Val { return val(2, x) }

func vals(l ...api.Val) []api.Val { return l }

func node(kind int, fields []api.Val, raws ...uint64) api.Node {
	return api.Node{Kind: kind, Fields: fields, Raws: raws}
}

func nodes(l ...api.Node) []api.Node { return l }

// sized is a node of so many words, without references.
func sized(size int) api.Node {
	fields := size / 2
	return node(size%32, slices.Repeat(vals(imm(int64(size))), fields), slices.Repeat([]uint64{uint64(size)}, size-1-fields)...)
}

// sizes are nodes of so many words each.
func sizes(l ...int) api.Graph {
	var g api.Graph
	for _, n := range l {
		g.Nodes = append(g.Nodes, sized(n))
	}
	return g
}

func gr(l []api.Node, roots ...api.Val) api.Graph { return api.Graph{Nodes: l, Roots: roots} }

func places(l ...int) []int { return l }

func sizeOf(n api.Node) int { return 1 + len(n.Fields) + len(n.Raws) }

func headWord(kind, fields, raws int) uint64 {
	return 3 + uint64(kind)*8 + uint64(fields)*256 + uint64(raws)*256*65536
}

// wordOf is the word of v, whose reference leads to an address.
func wordOf(v api.Val) uint64 {
	switch v.Kind {
	case 0:
		return 0
	case 1:
		return uint64(v.X)*4 + 1
	}
	return uint64(v.X)*4 + 2
}

func refWord(at int) uint64 { return wordOf(ref(int64(at))) }

func immWord(x int64) uint64 { return wordOf(imm(x)) }

func used(w uint64) api.Slot { return api.Slot{Used: true, Word: w} }

// mayBeConfig tells by the chapter of configs whether c may be.
func mayBeConfig(c api.Config) bool {
	return c.Semi >= 2 && c.Semi <= maxSemi && c.Large >= 0 && c.Large <= maxLarge &&
		c.Slots >= 1 && c.Slots <= maxSlots && c.Limit >= 1 && c.Limit <= c.Semi
}

// mayBe tells by the chapter of graphs whether g may be.
func mayBe(g api.Graph) bool {
	wrong := func(v api.Val) bool {
		switch v.Kind {
		case 0:
			return v.X != 0
		case 1:
			return v.X < minImm || v.X > maxImm
		case 2:
			return v.X < 0 || v.X >= int64(len(g.Nodes))
		}
		return true
	}
	for _, n := range g.Nodes {
		if n.Kind < 0 || n.Kind > 31 || len(n.Fields) > maxFields || len(n.Raws) > maxRaws || slices.ContainsFunc(n.Fields, wrong) {
			return false
		}
	}
	return !slices.ContainsFunc(g.Roots, wrong)
}

// slow is a heap as the chapter says it, and the places of the nodes: from one part to the other all nodes of it are put in a row.
func slow(c api.Config, second bool, g api.Graph) (api.State, []int, api.Errno) {
	switch {
	case !mayBeConfig(c):
		return api.State{}, nil, api.ErrArg
	case !mayBe(g):
		return api.State{}, nil, api.ErrForm
	case len(g.Roots) > c.Slots:
		return api.State{}, nil, api.ErrSlots
	}
	s := api.State{Config: c, Second: second, Words: make([]uint64, 2*c.Semi+c.Large), Slots: make([]api.Slot, c.Slots)}
	if second {
		s.Top = c.Semi
	}
	behind := s.Top + c.Semi
	at := make([]int, len(g.Nodes))
	for i, n := range g.Nodes {
		if sizeOf(n) <= c.Limit {
			at[i] = s.Top
			s.Top += sizeOf(n)
		}
	}
	next := 2 * c.Semi
	for i, n := range g.Nodes {
		if sizeOf(n) > c.Limit {
			at[i] = next
			s.Table = append(s.Table, sp(next, sizeOf(n)))
			next += sizeOf(n)
		}
	}
	if s.Top > behind || next > len(s.Words) {
		return api.State{}, nil, api.ErrMemory
	}
	if next < len(s.Words) {
		s.Free = spans(sp(next, len(s.Words)-next))
	}
	writeAll(s, g, at)
	return s, at, api.OK
}

// writeAll puts the words of the nodes of g to the places of at, and its roots into the first slots.
func writeAll(s api.State, g api.Graph, at []int) {
	turn := func(v api.Val) uint64 {
		if v.Kind == 2 {
			return refWord(at[v.X])
		}
		return wordOf(v)
	}
	for i, n := range g.Nodes {
		row := []uint64{headWord(n.Kind, len(n.Fields), len(n.Raws))}
		for _, v := range n.Fields {
			row = append(row, turn(v))
		}
		copy(s.Words[at[i]:], append(row, n.Raws...))
	}
	for i, v := range g.Roots {
		s.Slots[i] = used(turn(v))
	}
}

// equal tells whether a and b are the same in all, lists of no length held for the same.
func equal(a, b api.Graph) bool {
	same := func(n, m api.Node) bool {
		return n.Kind == m.Kind && slices.Equal(n.Fields, m.Fields) && slices.Equal(n.Raws, m.Raws)
	}
	return slices.EqualFunc(a.Nodes, b.Nodes, same) && slices.Equal(a.Roots, b.Roots)
}

// deep is g, none of its lists shared, by hand.
func deep(g api.Graph) api.Graph {
	g.Nodes = slices.Clone(g.Nodes)
	for i, n := range g.Nodes {
		g.Nodes[i] = node(n.Kind, slices.Clone(n.Fields), slices.Clone(n.Raws)...)
	}
	g.Roots = slices.Clone(g.Roots)
	return g
}

// sameState tells by hand whether a and b are the same.
func sameState(a, b api.State) bool {
	return a.Config == b.Config && a.Second == b.Second && a.Top == b.Top && slices.Equal(a.Words, b.Words) &&
		slices.Equal(a.Table, b.Table) && slices.Equal(a.Free, b.Free) && slices.Equal(a.Slots, b.Slots)
}

// isNone tells whether s is the zero state, lists of no length held for none.
func isNone(s api.State) bool { return sameState(s, api.State{}) }

// short tells what is to be seen of v: all of it, if it is little.
func short(v any, size int) any {
	if size > 60 {
		return size
	}
	return v
}

// order is the places of the nodes of g in the order in which a heap has them: the small ones first, then the large ones.
func order(c api.Config, g api.Graph) []int {
	var small, large []int
	for i, n := range g.Nodes {
		if sizeOf(n) <= c.Limit {
			small = append(small, i)
		} else {
			large = append(large, i)
		}
	}
	return append(small, large...)
}

// renumbered is g with the node order[i] at the place i.
func renumbered(g api.Graph, order []int) api.Graph {
	place := make([]int64, len(order))
	for to, from := range order {
		place[from] = int64(to)
	}
	turn := func(l []api.Val) []api.Val {
		l = slices.Clone(l)
		for i, v := range l {
			if v.Kind == 2 {
				l[i].X = place[v.X]
			}
		}
		return l
	}
	now := api.Graph{Roots: turn(g.Roots)}
	for _, i := range order {
		n := g.Nodes[i]
		now.Nodes = append(now.Nodes, node(n.Kind, turn(n.Fields), n.Raws...))
	}
	return now
}

// tells holds all that is told of c, second and g against s, at and err; g stays as it is.
func tells(t *testing.T, c api.Config, second bool, g api.Graph, s api.State, at []int, err api.Errno) {
	t.Helper()
	was := deep(g)
	n := len(s.Words) + len(g.Nodes)
	if got, e := lower.Lower(c, second, g); e != err || !sameState(got, s) {
		t.Errorf("Lower(%+v, %v, %+v): %+v %d, want %+v %d", c, second, short(g, n), short(got, n), e, short(s, n), err)
	}
	if l, e := lower.Places(c, second, g); e != err || !slices.Equal(l, at) {
		t.Errorf("Places(%+v, %v, %+v): %v %d, want %v %d", c, second, short(g, n), short(l, len(l)), e, short(at, len(at)), err)
	}
	if ok := lower.Fits(c, g); ok != (err == api.OK) {
		t.Errorf("Fits(%+v, %+v): %v, want %v", c, short(g, n), ok, !ok)
	}
	if !equal(g, was) {
		t.Errorf("it was %+v, and is %+v now", short(was, n), short(g, n))
	}
}

// agrees holds what is told of c, second and g against what is found slowly, and that against what must follow.
func agrees(t *testing.T, c api.Config, second bool, g api.Graph) {
	t.Helper()
	s, at, err := slow(c, second, g)
	tells(t, c, second, g, s, at, err)
	if err == api.OK {
		follows(t, c, second, g)
	}
}

// follows holds that the heap of g may be, and that lifted it is g but for the order of nodes, which is told.
func follows(t *testing.T, c api.Config, second bool, g api.Graph) {
	t.Helper()
	n := len(g.Nodes)
	s, _ := lower.Lower(c, second, g)
	if broken := state.Check(s); broken != 0 {
		t.Errorf("the heap of %+v %v %+v may not be: %d", c, second, short(g, n), broken)
	}
	got, at, err := lift.Lift(s)
	want := renumbered(g, order(c, g))
	if err != api.OK || !equal(got, want) {
		t.Errorf("%+v %v %+v lifted: %+v %d, want %+v", c, second, short(g, n), short(got, n), err, short(want, n))
	}
	if !canon.Alike(got, g) {
		t.Errorf("%+v %v %+v lifted is not alike: %+v", c, second, short(g, n), short(got, n))
	}
	l, _ := lower.Places(c, second, g)
	if slices.Sort(at); !slices.IsSorted(at) || !sameSet(at, l) {
		t.Errorf("%+v %v %+v: objects stand at %v, and Places are %v", c, second, short(g, n), short(at, n), short(l, n))
	}
	again, err := lower.Lower(c, second, got)
	if err != api.OK || !sameState(again, s) {
		t.Errorf("%+v %v %+v lowered, lifted and lowered: %+v %d, want %+v", c, second, short(g, n), short(again, n), err, short(s, n))
	}
}

// sameSet tells whether l has what sorted has, in any order.
func sameSet(sorted, l []int) bool {
	l = slices.Clone(l)
	slices.Sort(l)
	return slices.Equal(sorted, l)
}

// both asks of c and g in both halves.
func both(t *testing.T, c api.Config, g api.Graph) {
	t.Helper()
	agrees(t, c, false, g)
	agrees(t, c, true, g)
}

// refuses holds that c and g are refused with err in both halves, and nothing is told beside.
func refuses(t *testing.T, name string, c api.Config, g api.Graph, err api.Errno) {
	t.Helper()
	for _, second := range []bool{false, true} {
		tells(t, c, second, g, api.State{}, nil, err)
		if s, _ := lower.Lower(c, second, g); !isNone(s) {
			t.Errorf("%s: beside the error %+v", name, short(s, len(s.Words)))
		}
	}
	if t.Failed() {
		t.Fatal(name)
	}
}

func TestExample(t *testing.T) {
	c := cfg(4, 0, 1, 2)
	g := gr(nodes(node(0, nil), node(0, nil)))
	tells(t, c, false, g, api.State{Config: c, Words: []uint64{3, 3, 0, 0, 0, 0, 0, 0}, Top: 2, Slots: make([]api.Slot, 1)}, places(0, 1), api.OK)
	tells(t, c, true, g, api.State{Config: c, Second: true, Words: []uint64{0, 0, 0, 0, 3, 3, 0, 0}, Top: 6, Slots: make([]api.Slot, 1)}, places(4, 5), api.OK)
	both(t, c, g)
}

// full is a graph of each kind of thing: small nodes (3, 1, 4 and 2 words) and large ones (6, 5 and 5 words), one among the other, and roots.
func full() api.Graph {
	return gr(nodes(
		node(4, vals(ref(0), ref(6), api.Val{}, ref(3), imm(7))),
		node(31, vals(ref(2), ref(1))),
		node(1, nil),
		node(5, nil, 0, 6, 4, 523),
		node(2, vals(ref(5), imm(-1)), math.MaxUint64),
		node(0, vals(ref(1), api.Val{}, ref(0)), 7),
		node(3, nil, 3),
	), ref(1), ref(0), api.Val{}, imm(4), ref(1))
}

// fullState is the heap of full.
func fullState(second bool) api.State {
	s := api.State{Config: cfg(12, 24, 8, 4), Second: second, Words: make([]uint64, 48)}
	b := 0
	if second {
		b = 12
	}
	s.Top = b + 10
	copy(s.Words[b:], []uint64{
		headWord(31, 2, 0), refWord(b + 3), refWord(b),
		headWord(1, 0, 0),
		headWord(2, 2, 1), refWord(35), immWord(-1), math.MaxUint64,
		headWord(3, 0, 1), 3,
	})
	copy(s.Words[24:], []uint64{
		headWord(4, 5, 0), refWord(24), refWord(b + 8), 0, refWord(30), immWord(7),
		headWord(5, 0, 4), 0, 6, 4, 523,
		headWord(0, 3, 1), refWord(b), 0, refWord(24), 7,
	})
	s.Table = spans(sp(24, 6), sp(30, 5), sp(35, 5))
	s.Free = spans(sp(40, 8))
	s.Slots = []api.Slot{used(refWord(b)), used(refWord(24)), used(0), used(immWord(4)), used(refWord(b)), {}, {}, {}}
	return s
}

func TestAGraphOfAll(t *testing.T) {
	c := cfg(12, 24, 8, 4)
	tells(t, c, false, full(), fullState(false), places(24, 0, 3, 30, 4, 35, 8), api.OK)
	tells(t, c, true, full(), fullState(true), places(24, 12, 15, 30, 16, 35, 20), api.OK)
	both(t, c, full())
}

// TestNoNodes has graphs without nodes: the heap is a new one, but for slots and the half.
func TestNoNodes(t *testing.T) {
	for _, c := range []api.Config{cfg(2, 0, 1, 1), cfg(2, 5, 3, 2), cfg(100, 0, maxSlots, 7), cfg(maxSemi, maxLarge, maxSlots, maxSemi)} {
		both(t, c, api.Graph{})
		both(t, c, api.Graph{Nodes: []api.Node{}, Roots: []api.Val{}})
		want, err := state.New(c)
		if got, e := lower.Lower(c, false, api.Graph{}); err != api.OK || e != api.OK || !sameState(got, want) {
			t.Errorf("%+v without nodes is no new heap: %d", c, e)
		}
	}
	g := gr(nil, api.Val{}, imm(0), imm(maxImm), imm(minImm), api.Val{})
	both(t, cfg(4, 9, 5, 3), g)
	s, _ := lower.Lower(cfg(2, 0, 6, 1), true, g)
	want := []api.Slot{used(0), used(1), used(math.MaxUint64>>1 - 2), used(1<<63 + 1), used(0), {}}
	if !slices.Equal(s.Slots, want) || s.Top != 2 || len(s.Table) != 0 || len(s.Free) != 0 {
		t.Errorf("roots alone: %+v, want the slots %+v", s, want)
	}
}

// TestEdgesOfTheHalf has nodes that take all words of their half, and one word more.
func TestEdgesOfTheHalf(t *testing.T) {
	for semi := 2; semi < 9; semi++ {
		for limit := 1; limit <= semi; limit++ {
			for size := 1; size <= limit; size++ {
				most := semi / size
				for large := range 2 {
					// Free words of the part for large objects are none for a small one.
					c := cfg(semi, 20*large, 1, limit)
					g := sizes(slices.Repeat(places(size), most)...)
					both(t, c, g)
					if !lower.Fits(c, g) {
						t.Errorf("%+v has no room for %d of %d words", c, most, size)
					}
					refuses(t, "one more", c, sizes(slices.Repeat(places(size), most+1)...), api.ErrMemory)
				}
			}
		}
	}
	both(t, cfg(6, 0, 1, 4), sizes(4, 2))
	both(t, cfg(6, 0, 1, 4), sizes(2, 4))
	refuses(t, "a word more", cfg(6, 9, 1, 4), sizes(4, 3), api.ErrMemory)
	refuses(t, "a word more", cfg(6, 9, 1, 4), sizes(1, 2, 4), api.ErrMemory)
	refuses(t, "all but the last one fit", cfg(6, 9, 1, 4), sizes(1, 1, 1, 1, 1, 1, 1), api.ErrMemory)
	refuses(t, "a smaller one behind it would fit", cfg(6, 9, 1, 4), sizes(3, 4, 1), api.ErrMemory)
}

// TestEdgesOfTheLargePart has nodes that take all words of it, and one word more; free words of a half are none for a large one.
func TestEdgesOfTheLargePart(t *testing.T) {
	for large := range 9 {
		for size := 3; size < 9; size++ {
			c := cfg(30, large, 1, 2)
			most := large / size
			g := sizes(slices.Repeat(places(size), most)...)
			both(t, c, g)
			if s, err := lower.Lower(c, false, g); err != api.OK || len(s.Table) != most || s.Top != 0 {
				t.Errorf("%+v has no room for %d of %d words", c, most, size)
			}
			refuses(t, "one more", c, sizes(slices.Repeat(places(size), most+1)...), api.ErrMemory)
		}
	}
	both(t, cfg(9, 9, 1, 3), sizes(4, 5))
	refuses(t, "a word more", cfg(9, 9, 1, 3), sizes(4, 6), api.ErrMemory)
	refuses(t, "a word more, of three", cfg(9, 13, 1, 3), sizes(4, 5, 5), api.ErrMemory)
	refuses(t, "a smaller one behind it would fit", cfg(9, 9, 1, 3), sizes(5, 5, 4), api.ErrMemory)
	refuses(t, "no such part", cfg(9, 0, 1, 3), sizes(1, 4), api.ErrMemory)
	both(t, cfg(9, 9, 1, 3), sizes(4, 3, 5, 3, 3))
	refuses(t, "the half is full, the part is not", cfg(9, 10, 1, 3), sizes(4, 3, 5, 3, 3, 1), api.ErrMemory)
	refuses(t, "the part is full, the half is not", cfg(10, 9, 1, 3), sizes(4, 3, 5, 3, 3, 4), api.ErrMemory)
}

// TestWhatIsSmall has nodes of as many words as the limit says, and of one more.
func TestWhatIsSmall(t *testing.T) {
	g := sizes(1, 2, 3, 4, 5, 6)
	want := map[int][]int{
		1: {0, 60, 62, 65, 69, 74},
		2: {0, 1, 60, 63, 67, 72},
		3: {0, 1, 3, 60, 64, 69},
		4: {0, 1, 3, 6, 60, 65},
		5: {0, 1, 3, 6, 10, 60},
		6: {0, 1, 3, 6, 10, 15},
		7: {0, 1, 3, 6, 10, 15},
	}
	for limit, l := range want {
		c := cfg(30, 25, 1, limit)
		if got, err := lower.Places(c, false, g); err != api.OK || !slices.Equal(got, l) {
			t.Errorf("of the limit %d: %v %d, want %v", limit, got, err, l)
		}
		both(t, c, g)
	}
}

func TestSlots(t *testing.T) {
	l := nodes(node(1, nil), node(2, vals(ref(0)), 5))
	for slots := 1; slots < 6; slots++ {
		roots := vals(ref(1), api.Val{}, ref(0), ref(1), imm(1))[:slots]
		both(t, cfg(4, 0, slots, 3), gr(l, roots...))
		both(t, cfg(4, 0, slots+1, 3), gr(l, roots...))
		both(t, cfg(4, 0, maxSlots, 3), gr(l, roots...))
		refuses(t, "a root more", cfg(4, 0, slots, 3), gr(l, append(roots, api.Val{})...), api.ErrSlots)
		refuses(t, "a root more that leads", cfg(4, 0, slots, 3), gr(l, append(roots, ref(0))...), api.ErrSlots)
	}
	many := slices.Repeat(vals(ref(1)), maxSlots)
	both(t, cfg(4, 0, maxSlots, 3), gr(l, many...))
	refuses(t, "more than there are", cfg(4, 0, maxSlots, 3), gr(l, append(many, ref(0))...), api.ErrSlots)
	refuses(t, "without nodes", cfg(4, 0, 1, 3), gr(nil, api.Val{}, api.Val{}), api.ErrSlots)
}

// TestWordsThatLookLikeOthers has raw words that look like references and headers, and immediates that are places: none of them is turned.
func TestWordsThatLookLikeOthers(t *testing.T) {
	g := gr(nodes(
		node(7, vals(imm(0), imm(1), imm(2), imm(3)), 0, 1, 2, 3, 6, 10, 14, 259),
		node(8, vals(ref(0), ref(1), ref(2), ref(3)), 2, 6, 10, math.MaxUint64, 1<<63),
		node(9, vals(imm(minImm), imm(maxImm), imm(-1), api.Val{})),
		node(10, nil, slices.Repeat([]uint64{2}, 9)...),
	), imm(0), ref(3), imm(3), ref(0))
	for limit := 1; limit < 20; limit++ {
		both(t, cfg(60, 60, 4, limit), g)
	}
}

// TestReferencesBothWays has references ahead and behind, small to large and large to small, to the node itself, and more than once.
func TestReferencesBothWays(t *testing.T) {
	for turn := range 4 {
		var g api.Graph
		for i := range 4 {
			to := int64((i + turn) % 4)
			g.Nodes = append(g.Nodes, node(i, vals(ref(to), ref(to)), make([]uint64, i)...))
		}
		for i := range 4 {
			g.Roots = vals(ref(int64(i)), ref(int64(3-i)), ref(int64(i)))
			for limit := 1; limit < 8; limit++ {
				both(t, cfg(20, 20, 3, limit), g)
				both(t, cfg(20, 20, 3, limit), renumbered(g, places(3, 1, 2, 0)))
				both(t, cfg(20, 20, 3, limit), renumbered(g, places(2, 3, 0, 1)))
			}
		}
	}
}

func TestKindsAndSizes(t *testing.T) {
	for kind := range 32 {
		both(t, cfg(4, 9, 1, 2), gr(nodes(node(kind, vals(ref(0))), node(31-kind, vals(ref(0)), 1)), ref(1)))
	}
	for fields := range 6 {
		for raws := range 6 {
			n := node(3, slices.Repeat(vals(imm(4)), fields), slices.Repeat([]uint64{9}, raws)...)
			both(t, cfg(12, 24, 1, 5), gr(nodes(n, n), ref(1)))
		}
	}
}

// TestGreatNodes has nodes of as many fields and raw words as may be.
func TestGreatNodes(t *testing.T) {
	fields := make([]api.Val, maxFields)
	raws := make([]uint64, maxRaws)
	for i := range maxFields {
		fields[i] = ref(int64(i % 2))
		raws[i] = uint64(i)
	}
	g := gr(nodes(node(31, fields, raws...), node(30, fields, raws...)), ref(1))
	all := 1 + maxFields + maxRaws
	both(t, cfg(maxSemi, maxLarge, 1, all-1), g)
	both(t, cfg(maxSemi, maxLarge, 1, all), g)
	both(t, cfg(2*all, 0, 1, all), g)
	both(t, cfg(2*all, 2*all, 1, 1), g)
	refuses(t, "a word too few", cfg(2*all-1, maxLarge, 1, all), g, api.ErrMemory)
	refuses(t, "a word too few of the part", cfg(maxSemi, 2*all-1, 1, 1), g, api.ErrMemory)
	refuses(t, "a field more", cfg(maxSemi, maxLarge, 1, all), gr(nodes(node(0, append(fields[:maxFields:maxFields], imm(0))), node(0, nil))), api.ErrForm)
	refuses(t, "a raw word more", cfg(maxSemi, maxLarge, 1, all), gr(nodes(node(0, nil, append(raws[:maxRaws:maxRaws], 0)...))), api.ErrForm)
}

// wrongConfigs may not be.
func wrongConfigs() []api.Config {
	var l []api.Config
	for _, n := range []int{math.MinInt, -12, -1, 0, 1, maxSemi + 1, 1 << 40, math.MaxInt} {
		l = append(l, cfg(n, 24, 8, 1))
	}
	for _, n := range []int{math.MinInt, -24, -1, maxLarge + 1, 1 << 40, math.MaxInt} {
		l = append(l, cfg(12, n, 8, 4))
	}
	for _, n := range []int{math.MinInt, -8, -1, 0, maxSlots + 1, 1 << 40, math.MaxInt} {
		l = append(l, cfg(12, 24, n, 4))
	}
	for _, n := range []int{math.MinInt, -4, -1, 0, 13, 1 << 40, math.MaxInt} {
		l = append(l, cfg(12, 24, 8, n))
	}
	return append(l, api.Config{})
}

// change is full with something changed.
type change struct {
	name string
	do   func(g *api.Graph)
}

// wrongGraphs are changes of full that leave a graph that may not be.
func wrongGraphs() []change {
	return []change{
		{"a kind below 0", func(g *api.Graph) { g.Nodes[0].Kind = -1 }},
		{"a kind that is too great", func(g *api.Graph) { g.Nodes[6].Kind = 32 }},
		{"a kind far off", func(g *api.Graph) { g.Nodes[2].Kind = math.MaxInt }},
		{"a kind far below", func(g *api.Graph) { g.Nodes[2].Kind = math.MinInt }},
		{"a field to no node", func(g *api.Graph) { g.Nodes[1].Fields[0] = ref(7) }},
		{"a field below 0", func(g *api.Graph) { g.Nodes[1].Fields[1] = ref(-1) }},
		{"a field far off", func(g *api.Graph) { g.Nodes[5].Fields[2] = ref(math.MaxInt64) }},
		{"a field far below", func(g *api.Graph) { g.Nodes[5].Fields[2] = ref(math.MinInt64) }},
		{"a field of a wrong kind", func(g *api.Graph) { g.Nodes[4].Fields[1] = val(3, 0) }},
		{"a field of a kind below 0", func(g *api.Graph) { g.Nodes[4].Fields[1] = val(-1, 0) }},
		{"a field that is nil with a number", func(g *api.Graph) { g.Nodes[5].Fields[1] = val(0, 1) }},
		{"a number that is too great", func(g *api.Graph) { g.Nodes[0].Fields[4] = imm(maxImm + 1) }},
		{"a number that is too small", func(g *api.Graph) { g.Nodes[0].Fields[4] = imm(minImm - 1) }},
		{"a root to no node", func(g *api.Graph) { g.Roots[4] = ref(7) }},
		{"a root below 0", func(g *api.Graph) { g.Roots[0] = ref(-1) }},
		{"a root far off", func(g *api.Graph) { g.Roots[0] = ref(math.MaxInt64) }},
		{"a root of a wrong kind", func(g *api.Graph) { g.Roots[2] = val(3, 0) }},
		{"a root that is nil with a number", func(g *api.Graph) { g.Roots[2] = val(0, -1) }},
		{"a root that is too great", func(g *api.Graph) { g.Roots[3] = imm(math.MaxInt64) }},
		{"a node less", func(g *api.Graph) { g.Nodes = g.Nodes[:6] }},
		{"no nodes", func(g *api.Graph) { g.Nodes = nil }},
		{"too many fields", func(g *api.Graph) { g.Nodes[3].Fields = make([]api.Val, maxFields+1) }},
		{"too many raw words", func(g *api.Graph) { g.Nodes[3].Raws = make([]uint64, maxRaws+1) }},
	}
}

// manyRoots are more than any table has slots.
func manyRoots(g *api.Graph) {
	g.Roots = append(g.Roots, make([]api.Val, maxSlots)...)
}

// manyNodes are more than any heap has words.
func manyNodes(g *api.Graph) {
	g.Nodes = append(g.Nodes, make([]api.Node, 3*maxSemi)...)
}

// TestErrorsInOrder has one thing wrong, and then each thing that is asked later wrong, too: what is asked first is told.
func TestErrorsInOrder(t *testing.T) {
	right := cfg(12, 24, 8, 4)
	later := []change{
		{"nothing more", func(g *api.Graph) {}},
		{"too many roots", manyRoots},
		{"too many nodes", manyNodes},
		{"too many roots and nodes", func(g *api.Graph) { manyRoots(g); manyNodes(g) }},
	}
	for _, c := range wrongConfigs() {
		refuses(t, "a wrong config", c, full(), api.ErrArg)
		refuses(t, "a wrong config, nothing else", c, api.Graph{}, api.ErrArg)
	}
	for _, wrong := range wrongGraphs() {
		for _, more := range later[:2] {
			g := full()
			wrong.do(&g)
			more.do(&g)
			refuses(t, wrong.name+", "+more.name, right, g, api.ErrForm)
			refuses(t, wrong.name+", and the config", cfg(12, 24, 8, 13), g, api.ErrArg)
		}
		g := full()
		wrong.do(&g)
		refuses(t, wrong.name+", and no room", cfg(2, 0, 5, 1), g, api.ErrForm)
		refuses(t, wrong.name+", and no slots", cfg(12, 24, 4, 4), g, api.ErrForm)
	}
	g := full()
	manyNodes(&g)
	g.Roots[0] = val(3, 3)
	refuses(t, "a wrong root behind too many nodes", right, g, api.ErrForm)
	g.Roots[0] = ref(0)
	refuses(t, "too many nodes", right, g, api.ErrMemory)
	refuses(t, "too many nodes, too few slots", cfg(12, 24, 4, 4), g, api.ErrSlots)
	for _, more := range later[1:] {
		g := full()
		more.do(&g)
		refuses(t, more.name+", a wrong config", cfg(12, 24, 0, 4), g, api.ErrArg)
	}
	refuses(t, "too few slots", cfg(12, 24, 4, 4), full(), api.ErrSlots)
	refuses(t, "too few slots and no room", cfg(2, 0, 4, 1), full(), api.ErrSlots)
	refuses(t, "no room", cfg(2, 0, 5, 1), full(), api.ErrMemory)
	refuses(t, "no room for small ones", cfg(9, 24, 5, 4), full(), api.ErrMemory)
	refuses(t, "no room for large ones", cfg(12, 15, 5, 4), full(), api.ErrMemory)
	both(t, cfg(10, 16, 5, 4), full())
}

// TestAllOfTheLeast goes over all rows of up to four nodes of up to four words, in all small heaps; the wrong ones are among them.
func TestAllOfTheLeast(t *testing.T) {
	rows := [][]int{nil}
	for at := 0; at < len(rows); at++ {
		if len(rows[at]) < 4 {
			for size := 1; size < 5; size++ {
				rows = append(rows, append(slices.Clone(rows[at]), size))
			}
		}
	}
	had := map[api.Errno]int{}
	for semi := 1; semi < 6; semi++ {
		for large := -1; large < 8; large++ {
			for limit := range 6 {
				for i, row := range rows {
					c := cfg(semi, large, 1+i%2, limit)
					g := sizes(row...)
					lead(&g, i)
					agrees(t, c, i%3 == 0, g)
					_, _, err := slow(c, i%3 == 0, g)
					had[err]++
				}
			}
		}
	}
	for _, err := range []api.Errno{api.OK, api.ErrArg, api.ErrSlots, api.ErrMemory} {
		if had[err] < 1000 {
			t.Errorf("only %d of the answers are %d", had[err], err)
		}
	}
}

// lead makes the fields of g, and up to three roots, references that hang on i.
func lead(g *api.Graph, i int) {
	for k := range min(len(g.Nodes), i%4) {
		g.Roots = append(g.Roots, ref(int64((i+k)%len(g.Nodes))))
	}
	for k, n := range g.Nodes {
		for f := range n.Fields {
			n.Fields[f] = ref(int64((i + k + f) % len(g.Nodes)))
		}
	}
}

// numbers tells numbers that look like chance, the same ones each time.
func numbers(seed uint64) func(n int) int {
	return func(n int) int {
		seed = seed*6364136223846793005 + 1442695040888963407
		return int(seed>>33) % n
	}
}

// anyGraph is a graph of up to most nodes; it may be, but for one value of some.
func anyGraph(pick func(n int) int, most int) api.Graph {
	var g api.Graph
	for range pick(most + 1) {
		g.Nodes = append(g.Nodes, node(pick(32), make([]api.Val, pick(5)), make([]uint64, pick(4))...))
	}
	value := func() api.Val {
		switch pick(5) {
		case 0:
			return api.Val{}
		case 1:
			return imm(int64(pick(9) - 4))
		}
		if len(g.Nodes) == 0 || pick(200) == 0 {
			return ref(int64(len(g.Nodes)))
		}
		return ref(int64(pick(len(g.Nodes))))
	}
	for _, n := range g.Nodes {
		for i := range n.Fields {
			n.Fields[i] = value()
		}
		for i := range n.Raws {
			n.Raws[i] = uint64(pick(1 << 30))
		}
	}
	for range pick(5) {
		g.Roots = append(g.Roots, value())
	}
	return g
}

func TestManyGraphs(t *testing.T) {
	pick := numbers(20)
	had := map[api.Errno]int{}
	for i := range 6000 {
		most := 1 + i%12
		g := anyGraph(pick, most)
		c := cfg(2+pick(4*most), pick(6*most), 1+pick(6), 1+pick(7))
		second := pick(2) == 1
		agrees(t, c, second, g)
		_, _, err := slow(c, second, g)
		had[err]++
	}
	for _, err := range []api.Errno{api.OK, api.ErrArg, api.ErrForm, api.ErrSlots, api.ErrMemory} {
		if had[err] < 200 {
			t.Errorf("only %d of the answers are %d", had[err], err)
		}
	}
}

func TestTheSameAgain(t *testing.T) {
	c := cfg(12, 24, 8, 4)
	for range 20 {
		tells(t, c, true, full(), fullState(true), places(24, 12, 15, 30, 16, 35, 20), api.OK)
		refuses(t, "no room", cfg(9, 24, 5, 4), full(), api.ErrMemory)
		tells(t, c, false, full(), fullState(false), places(24, 0, 3, 30, 4, 35, 8), api.OK)
	}
}

// scratch writes over all of l, and behind its end.
func scratch[T any](l []T, with T) {
	l = l[:cap(l)]
	for i := range l {
		l[i] = with
	}
}

func TestAnswersAreNew(t *testing.T) {
	c := cfg(12, 24, 8, 4)
	g := full()
	one, _ := lower.Lower(c, false, g)
	other, _ := lower.Lower(c, false, g)
	scratch(one.Words, 9)
	scratch(one.Table, sp(-9, -9))
	scratch(one.Free, sp(-9, -9))
	scratch(one.Slots, used(9))
	if !sameState(other, fullState(false)) {
		t.Errorf("two answers share a list: %+v", other)
	}
	l, _ := lower.Places(c, false, g)
	m, _ := lower.Places(c, false, g)
	scratch(l, -9)
	if !slices.Equal(m, places(24, 0, 3, 30, 4, 35, 8)) {
		t.Errorf("two answers share a list: %v", m)
	}
	if !equal(g, full()) {
		t.Errorf("an answer shares a list with the graph: %+v", g)
	}
}

// TestListsOfAnAnswer writes over one list of an answer after the other: none of the others may change.
func TestListsOfAnAnswer(t *testing.T) {
	for i, do := range []func(s *api.State){
		func(s *api.State) { scratch(s.Words, 9); s.Words = nil },
		func(s *api.State) { scratch(s.Table, sp(-9, -9)); s.Table = nil },
		func(s *api.State) { scratch(s.Free, sp(-9, -9)); s.Free = nil },
		func(s *api.State) { scratch(s.Slots, used(9)); s.Slots = nil },
	} {
		s, _ := lower.Lower(cfg(12, 24, 8, 4), true, full())
		want := fullState(true)
		do(&s)
		do(&want)
		if !sameState(s, want) {
			t.Errorf("the list %d shares with another one: %+v", i, s)
		}
	}
}

// TestTheGraphMayChangeBehindTheCall writes over the graph: what was told stays.
func TestTheGraphMayChangeBehindTheCall(t *testing.T) {
	g := full()
	s, _ := lower.Lower(cfg(12, 24, 8, 4), false, g)
	for _, n := range g.Nodes {
		scratch(n.Fields, val(-9, -9))
		scratch(n.Raws, 9)
	}
	scratch(g.Nodes, node(-9, nil))
	scratch(g.Roots, val(-9, -9))
	if !sameState(s, fullState(false)) {
		t.Errorf("the heap has changed with the graph: %+v", s)
	}
}

// TestWhatStandsBehindTheLists has lists that are cut out of longer ones: what is behind their ends stays, and is not seen.
func TestWhatStandsBehindTheLists(t *testing.T) {
	long, g := full(), full()
	for i, n := range g.Nodes {
		long.Nodes[i].Fields = append(long.Nodes[i].Fields, slices.Repeat(vals(val(-9, 9)), 9)...)
		long.Nodes[i].Raws = append(long.Nodes[i].Raws, slices.Repeat([]uint64{9}, 9)...)
		g.Nodes[i].Fields = long.Nodes[i].Fields[:len(n.Fields)]
		g.Nodes[i].Raws = long.Nodes[i].Raws[:len(n.Raws)]
	}
	long.Roots = append(long.Roots, slices.Repeat(vals(val(-9, 9)), 9)...)
	g.Roots = long.Roots[:len(g.Roots)]
	row := append(g.Nodes, slices.Repeat(nodes(node(-9, nil)), 9)...)
	g.Nodes = row[:len(g.Nodes)]
	was, wasRow := deep(long), deep(gr(row))
	both(t, cfg(12, 24, 8, 4), g)
	refuses(t, "cut out", cfg(9, 24, 5, 4), g, api.ErrMemory)
	if !equal(long, was) || !equal(gr(row), wasRow) {
		t.Error("what stands behind the lists has changed")
	}
}

// chain is nodes that lead to one another, each one to the next, or to the one ahead; they take all words of both parts.
func chain(back bool) api.Graph {
	n := maxSemi/2 + maxLarge/4
	var g api.Graph
	for i := range n {
		next := int64(i + 1)
		if back {
			next = int64(i - 1)
		}
		v := api.Val{}
		if next >= 0 && next < int64(n) {
			v = ref(next)
		}
		if i%3 < 2 && i/3 < maxSemi/4 {
			g.Nodes = append(g.Nodes, node(i%32, vals(v)))
		} else {
			g.Nodes = append(g.Nodes, node(i%32, vals(v), 1, 2))
		}
	}
	g.Roots = vals(ref(0))
	if back {
		g.Roots = vals(ref(int64(n - 1)))
	}
	return g
}

func TestLongChains(t *testing.T) {
	defer debug.SetMaxStack(debug.SetMaxStack(1 << 20))
	c := cfg(maxSemi, maxLarge, maxSlots, 2)
	for _, back := range []bool{false, true} {
		g := chain(back)
		both(t, c, g)
		s, err := lower.Lower(c, back, g)
		if err != api.OK || state.Used(s) != maxSemi || len(s.Free) != 0 || len(s.Table) != maxLarge/4 {
			t.Errorf("a chain has not taken all words: %d", err)
		}
		g.Nodes = append(g.Nodes, node(0, nil))
		refuses(t, "a node more", c, g, api.ErrMemory)
		g.Nodes[len(g.Nodes)-1] = node(0, nil, 1, 2)
		refuses(t, "a large node more", c, g, api.ErrMemory)
	}
}

// TestTheGreatestHeap has as many nodes and roots as may be.
func TestTheGreatestHeap(t *testing.T) {
	var g api.Graph
	for i := range maxSemi + maxLarge/2 {
		if i%3 < 2 {
			g.Nodes = append(g.Nodes, node(i%32, nil))
		} else {
			g.Nodes = append(g.Nodes, node(i%32, vals(ref(int64(i/2)))))
		}
	}
	for i := range maxSlots {
		g.Roots = append(g.Roots, ref(int64(len(g.Nodes)-1-i)))
	}
	both(t, cfg(maxSemi, maxLarge, maxSlots, 1), g)
}

// TestFarTooManyNodes has graphs whose nodes are far more than there are words.
func TestFarTooManyNodes(t *testing.T) {
	g := api.Graph{Nodes: make([]api.Node, 1<<20)}
	refuses(t, "small ones", cfg(maxSemi, maxLarge, 1, 1), g, api.ErrMemory)
	refuses(t, "of few words", cfg(2, 0, 1, 2), g, api.ErrMemory)
	for i := range g.Nodes {
		g.Nodes[i].Raws = []uint64{1}
	}
	refuses(t, "large ones", cfg(maxSemi, maxLarge, 1, 1), g, api.ErrMemory)
}
