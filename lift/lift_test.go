package lift_test

import (
	"math"
	"runtime/debug"
	"slices"
	"testing"

	"triforium/api"
	"triforium/lift"
	"triforium/state"
)

// The chapters' numbers, in digits: a limit that is changed in api would be told here.
const (
	maxSemi   = 32768
	maxLarge  = 32768
	maxSlots  = 1024
	maxWords  = 98304
	maxFields = 4096
	maxRaws   = 4096
	maxAt     = 1099511627776
	maxGen    = 1099511627776
	maxImm    = 2305843009213693951
	minImm    = -2305843009213693952
)

func sp(at, size int) api.Span { return api.Span{At: at, Size: size} }

func cfg(semi, large, slots, limit int) api.Config {
	return api.Config{Semi: semi, Large: large, Slots: slots, Limit: limit}
}

func val(kind int, x int64) api.Val { return api.Val{Kind: kind, X: x} }

func imm(x int64) api.Val { return val(1, x) }

func ref(x int64) api.Val { return val(2, x) }

func vals(l ...api.Val) []api.Val { return l }

func node(kind int, fields []api.Val, raws ...uint64) api.Node {
	return api.Node{Kind: kind, Fields: fields, Raws: raws}
}

func nodes(l ...api.Node) []api.Node { return l }

func gr(l []api.Node, roots ...api.Val) api.Graph { return api.Graph{Nodes: l, Roots: roots} }

func places(l ...int) []int { return l }

func sizeOf(n api.Node) int { return 1 + len(n.Fields) + len(n.Raws) }

func headWord(kind, fields, raws int) uint64 {
	return 3 + uint64(kind)*8 + uint64(fields)*256 + uint64(raws)*256*65536
}

// wordOf is the word of v, whose reference leads to an address.
func wordOf(v api.Val) uint64 {
	switch v.Kind {
	case 0:
		return 0
	case 1:
		return uint64(v.X)*4 + 1
	}
	return uint64(v.X)*4 + 2
}

// valOf is the value whose word w is.
func valOf(w uint64) api.Val {
	switch w % 4 {
	case 0:
		return api.Val{}
	case 1:
		return imm(int64(w) >> 2)
	}
	return ref(int64(w / 4))
}

func refWord(at int) uint64 { return wordOf(ref(int64(at))) }

func immWord(x int64) uint64 { return wordOf(imm(x)) }

func used(gen int, w uint64) api.Slot { return api.Slot{Used: true, Gen: gen, Word: w} }

// half is where the half begins in which the small objects are.
func half(s api.State) int {
	if s.Second {
		return s.Config.Semi
	}
	return 0
}

// heap writes g down by hand: small nodes one behind the other, large ones with gap free words ahead of each; small ones stand first in g, roots in all slots.
func heap(c api.Config, second bool, gap int, g api.Graph) (api.State, []int) {
	s := api.State{Config: c, Second: second, Words: make([]uint64, 2*c.Semi+c.Large), Slots: make([]api.Slot, c.Slots)}
	for i := range s.Words {
		s.Words[i] = 0xBAD0 + uint64(i)<<32 // no value's word, no header's
	}
	s.Top = half(s)
	end := 2 * c.Semi
	var at []int
	for _, n := range g.Nodes {
		if sizeOf(n) <= c.Limit {
			at = append(at, s.Top)
			s.Top += sizeOf(n)
			continue
		}
		if gap > 0 {
			s.Free = append(s.Free, sp(end, gap))
		}
		at = append(at, end+gap)
		s.Table = append(s.Table, sp(end+gap, sizeOf(n)))
		end += gap + sizeOf(n)
	}
	if rest := 2*c.Semi + c.Large - end; rest > 0 {
		s.Free = append(s.Free, sp(end, rest))
	}
	write(s, g, at)
	return s, at
}

// write puts the words of the nodes of g to the places of at, and its roots into the first slots.
func write(s api.State, g api.Graph, at []int) {
	turn := func(v api.Val) uint64 {
		if v.Kind == 2 {
			v.X = int64(at[v.X])
		}
		return wordOf(v)
	}
	for i, n := range g.Nodes {
		s.Words[at[i]] = headWord(n.Kind, len(n.Fields), len(n.Raws))
		for k, v := range n.Fields {
			s.Words[at[i]+1+k] = turn(v)
		}
		copy(s.Words[at[i]+1+len(n.Fields):], n.Raws)
	}
	for i, v := range g.Roots {
		s.Slots[i] = used(i, turn(v))
	}
}

// slow is a graph, and the places of its nodes, as the chapter says it of a heap that may be: places are looked for, one by one.
func slow(s api.State) (api.Graph, []int) {
	var at []int
	for i := half(s); i < s.Top; i += wordsAt(s, i) {
		at = append(at, i)
	}
	for _, t := range s.Table {
		at = append(at, t.At)
	}
	turn := func(l []uint64) []api.Val {
		var all []api.Val
		for _, w := range l {
			v := valOf(w)
			if v.Kind == 2 {
				v.X = int64(slices.Index(at, int(v.X)))
			}
			all = append(all, v)
		}
		return all
	}
	var g api.Graph
	for _, i := range at {
		w := s.Words[i]
		fields, raws := int(w/256%65536), int(w/256/65536%65536)
		g.Nodes = append(g.Nodes, node(int(w/8%32), turn(s.Words[i+1:i+1+fields]), s.Words[i+1+fields:i+1+fields+raws]...))
	}
	var roots []uint64
	for _, x := range s.Slots {
		if x.Used {
			roots = append(roots, x.Word)
		}
	}
	g.Roots = turn(roots)
	return g, at
}

// wordsAt are as many as the object has at the place at.
func wordsAt(s api.State, at int) int {
	w := s.Words[at]
	return 1 + int(w/256%65536) + int(w/256/65536%65536)
}

// slowValues are the values of the slots in use, by their words.
func slowValues(s api.State) []api.Val {
	var l []api.Val
	for _, x := range s.Slots {
		if x.Used {
			l = append(l, valOf(x.Word))
		}
	}
	return l
}

// slowOrder are the places of all that is met, breadth first.
func slowOrder(g api.Graph) []int {
	var order []int
	met := make([]bool, len(g.Nodes))
	meet := func(l []api.Val) {
		for _, v := range l {
			if v.Kind == 2 && !met[v.X] {
				met[v.X] = true
				order = append(order, int(v.X))
			}
		}
	}
	meet(g.Roots)
	for at := 0; at < len(order); at++ {
		meet(g.Nodes[order[at]].Fields)
	}
	return order
}

// life is what Live tells, but for the error.
type life struct{ objects, small, large, fields int }

func slowLive(s api.State) life {
	g, _ := slow(s)
	var l life
	for _, i := range slowOrder(g) {
		n := g.Nodes[i]
		l.objects++
		l.fields += len(n.Fields)
		if sizeOf(n) <= s.Config.Limit {
			l.small += sizeOf(n)
		} else {
			l.large += sizeOf(n)
		}
	}
	return l
}

// slowCanon numbers what is met of g anew, in the order in which it is met.
func slowCanon(g api.Graph) api.Graph {
	order := slowOrder(g)
	now := make([]int64, len(g.Nodes))
	for i, at := range order {
		now[at] = int64(i)
	}
	turn := func(l []api.Val) []api.Val {
		l = slices.Clone(l)
		for i, v := range l {
			if v.Kind == 2 {
				l[i].X = now[v.X]
			}
		}
		return l
	}
	c := api.Graph{Roots: turn(g.Roots)}
	for _, i := range order {
		n := g.Nodes[i]
		c.Nodes = append(c.Nodes, node(n.Kind, turn(n.Fields), n.Raws...))
	}
	return c
}

// slowAlike asks of two heaps that may be.
func slowAlike(a, b api.State) bool {
	one, _ := slow(a)
	other, _ := slow(b)
	return equal(slowCanon(one), slowCanon(other))
}

// mayBe tells by the chapter of graphs whether g may be.
func mayBe(g api.Graph) bool {
	wrong := func(v api.Val) bool {
		switch v.Kind {
		case 0:
			return v.X != 0
		case 1:
			return v.X < minImm || v.X > maxImm
		case 2:
			return v.X < 0 || v.X >= int64(len(g.Nodes))
		}
		return true
	}
	for _, n := range g.Nodes {
		if n.Kind < 0 || n.Kind > 31 || len(n.Fields) > maxFields || len(n.Raws) > maxRaws || slices.ContainsFunc(n.Fields, wrong) {
			return false
		}
	}
	return !slices.ContainsFunc(g.Roots, wrong)
}

// equal tells whether a and b are the same in all, lists of no length held for the same.
func equal(a, b api.Graph) bool {
	same := func(n, m api.Node) bool {
		return n.Kind == m.Kind && slices.Equal(n.Fields, m.Fields) && slices.Equal(n.Raws, m.Raws)
	}
	return slices.EqualFunc(a.Nodes, b.Nodes, same) && slices.Equal(a.Roots, b.Roots)
}

// deep is s, none of its lists shared, by hand.
func deep(s api.State) api.State {
	s.Words = slices.Clone(s.Words)
	s.Table = slices.Clone(s.Table)
	s.Free = slices.Clone(s.Free)
	s.Slots = slices.Clone(s.Slots)
	return s
}

// sameState tells by hand whether a and b are the same.
func sameState(a, b api.State) bool {
	return a.Config == b.Config && a.Second == b.Second && a.Top == b.Top && slices.Equal(a.Words, b.Words) &&
		slices.Equal(a.Table, b.Table) && slices.Equal(a.Free, b.Free) && slices.Equal(a.Slots, b.Slots)
}

// short tells what is to be seen of v: all of it, if it is of few words.
func short(v any, words int) any {
	if words > 100 {
		return words
	}
	return v
}

// tells holds all that is told of s alone against g, at, values and live; s stays as it is.
func tells(t *testing.T, s api.State, g api.Graph, at []int, values []api.Val, live life) {
	t.Helper()
	was := deep(s)
	n := len(s.Words)
	got, l, err := lift.Lift(s)
	if err != api.OK || !equal(got, g) {
		t.Errorf("Lift(%+v): %+v %d, want %+v", short(s, n), short(got, n), err, short(g, n))
	}
	if !slices.Equal(l, at) {
		t.Errorf("Lift(%+v): the places %v, want %v", short(s, n), short(l, len(l)), short(at, len(at)))
	}
	if !mayBe(got) {
		t.Errorf("Lift(%+v): %+v may not be", short(s, n), short(got, n))
	}
	if v, err := lift.Values(s); err != api.OK || !slices.Equal(v, values) {
		t.Errorf("Values(%+v): %v %d, want %v", short(s, n), v, err, values)
	}
	a, b, c, d, err := lift.Live(s)
	if now := (life{a, b, c, d}); err != api.OK || now != live {
		t.Errorf("Live(%+v): %+v %d, want %+v", short(s, n), now, err, live)
	}
	if !lift.Alike(s, s) {
		t.Errorf("%+v is not alike to itself", short(s, n))
	}
	if !sameState(s, was) {
		t.Errorf("it was %+v, and is %+v now", short(was, n), short(s, n))
	}
}

// agrees holds all that is told of s, which may be, against what is found slowly.
func agrees(t *testing.T, s api.State) {
	t.Helper()
	if n := state.Check(s); n != 0 {
		t.Fatalf("%+v may not be: %d", short(s, len(s.Words)), n)
	}
	g, at := slow(s)
	tells(t, s, g, at, slowValues(s), slowLive(s))
}

// refuses holds what is told of s, which may not be.
func refuses(t *testing.T, name string, s api.State) {
	t.Helper()
	was := deep(s)
	n := len(s.Words)
	if g, l, err := lift.Lift(s); err != api.ErrForm || !equal(g, api.Graph{}) || len(l) != 0 {
		t.Errorf("%s: Lift(%+v): %+v %v %d, want nothing and %d", name, short(s, n), g, l, err, api.ErrForm)
	}
	if v, err := lift.Values(s); err != api.ErrForm || len(v) != 0 {
		t.Errorf("%s: Values(%+v): %v %d, want nothing and %d", name, short(s, n), v, err, api.ErrForm)
	}
	a, b, c, d, err := lift.Live(s)
	if now := (life{a, b, c, d}); err != api.ErrForm || now != (life{}) {
		t.Errorf("%s: Live(%+v): %+v %d, want nothing and %d", name, short(s, n), now, err, api.ErrForm)
	}
	none, _ := heap(cfg(2, 0, 1, 1), false, 0, api.Graph{})
	for _, other := range []api.State{s, full(false), {}, none} {
		if lift.Alike(s, other) || lift.Alike(other, s) {
			t.Errorf("%s: %+v may not be, and is alike to %+v", name, short(s, n), short(other, len(other.Words)))
		}
	}
	if !sameState(s, was) {
		t.Errorf("%s: it was %+v, and is %+v now", name, short(was, n), short(s, n))
	}
}

// compares holds what is told of two heaps that may be, to and fro.
func compares(t *testing.T, name string, a, b api.State, want bool) {
	t.Helper()
	wasA, wasB := deep(a), deep(b)
	for _, s := range []api.State{a, b} {
		if n := state.Check(s); n != 0 {
			t.Fatalf("%s: %+v may not be: %d", name, short(s, len(s.Words)), n)
		}
	}
	if lift.Alike(a, b) != want || lift.Alike(b, a) != want {
		t.Errorf("%s: Alike(%+v, %+v) is %v, and %v to and fro, want %v", name, short(a, len(a.Words)), short(b, len(b.Words)), lift.Alike(a, b), lift.Alike(b, a), want)
	}
	if slowAlike(a, b) != want {
		t.Errorf("%s: the test's own way tells %v, want %v", name, !want, want)
	}
	if !sameState(a, wasA) || !sameState(b, wasB) {
		t.Errorf("%s: the heaps have changed", name)
	}
}

// full is a heap that may be, of each kind of thing: four small objects (3, 1, 4 and 2 words), of which the last one but one is not met, three large ones (6, 5 and 5 words), of which the second one is not met, free words ahead, between and behind, and slots in use, free, and at their end.
func full(second bool) api.State {
	s := api.State{Config: cfg(12, 24, 8, 4), Second: second, Words: make([]uint64, 48)}
	for i := range s.Words {
		s.Words[i] = 0xBAD0 + uint64(i)<<32 // no value's word, no header's
	}
	b := half(s)
	s.Top = b + 10
	copy(s.Words[b:], []uint64{
		headWord(31, 2, 0), refWord(b + 3), refWord(b),
		headWord(1, 0, 0),
		headWord(2, 2, 1), refWord(33), immWord(-1), math.MaxUint64,
		headWord(3, 0, 1), 3,
	})
	copy(s.Words[26:], []uint64{headWord(4, 5, 0), refWord(26), refWord(b + 8), 0, refWord(38), immWord(7)})
	copy(s.Words[33:], []uint64{headWord(5, 0, 4), 0, refWord(1), 4, 523})
	copy(s.Words[38:], []uint64{headWord(0, 3, 1), refWord(b), 0, refWord(26), 7})
	s.Table = []api.Span{sp(26, 6), sp(33, 5), sp(38, 5)}
	s.Free = []api.Span{sp(24, 2), sp(32, 1), sp(43, 5)}
	s.Slots = []api.Slot{used(0, refWord(b)), {}, used(3, refWord(26)), {Gen: maxGen}, used(maxGen-1, 0), {Gen: 9}, used(1, immWord(4)), used(1, refWord(b))}
	return s
}

// fullGraph is what full is, in both halves.
func fullGraph() api.Graph {
	return gr(nodes(
		node(31, vals(ref(1), ref(0))),
		node(1, nil),
		node(2, vals(ref(5), imm(-1)), math.MaxUint64),
		node(3, nil, 3),
		node(4, vals(ref(4), ref(3), api.Val{}, ref(6), imm(7))),
		node(5, nil, 0, 6, 4, 523),
		node(0, vals(ref(0), api.Val{}, ref(4)), 7),
	), ref(0), ref(4), api.Val{}, imm(4), ref(0))
}

func TestExample(t *testing.T) {
	s := api.State{Config: cfg(4, 0, 2, 3), Words: []uint64{259, 2, 0, 0, 0, 0, 0, 0}, Top: 2, Slots: []api.Slot{{}, used(0, 2)}}
	tells(t, s, gr(nodes(node(0, vals(ref(0)))), ref(0)), places(0), vals(ref(0)), life{1, 2, 0, 1})
}

func TestAHeapOfAll(t *testing.T) {
	live := life{objects: 5, small: 3 + 1 + 2, large: 6 + 5, fields: 2 + 5 + 3}
	first, second := full(false), full(true)
	tells(t, first, fullGraph(), places(0, 3, 4, 8, 26, 33, 38), vals(ref(0), ref(26), api.Val{}, imm(4), ref(0)), live)
	tells(t, second, fullGraph(), places(12, 15, 16, 20, 26, 33, 38), vals(ref(12), ref(26), api.Val{}, imm(4), ref(12)), live)
	agrees(t, first)
	agrees(t, second)
	compares(t, "in the other half", first, second, true)
}

// written asks of g, written down in both halves, with and without free words between.
func written(t *testing.T, c api.Config, g api.Graph, live life) {
	t.Helper()
	for _, second := range []bool{false, true} {
		for gap := range 3 {
			s, at := heap(c, second, gap, g)
			tells(t, s, g, at, slowValues(s), live)
			agrees(t, s)
		}
	}
}

func TestNewHeaps(t *testing.T) {
	for _, c := range []api.Config{cfg(2, 0, 1, 1), cfg(2, 5, 3, 2), cfg(100, 0, maxSlots, 7), cfg(maxSemi, maxLarge, maxSlots, maxSemi)} {
		s, err := state.New(c)
		if err != api.OK {
			t.Fatal("no heap")
		}
		tells(t, s, api.Graph{}, nil, nil, life{})
	}
}

func TestRootsAlone(t *testing.T) {
	written(t, cfg(4, 9, 5, 3), gr(nil, api.Val{}, imm(0), imm(maxImm), imm(minImm), api.Val{}), life{})
	written(t, cfg(4, 9, 5, 3), gr(nil, imm(-1)), life{})
}

func TestObjectsWithoutRoots(t *testing.T) {
	g := gr(nodes(node(1, vals(ref(2))), node(2, nil, 5), node(3, vals(ref(0), ref(1), ref(2)))))
	written(t, cfg(6, 9, 1, 3), g, life{})
	g.Roots = vals(imm(0), api.Val{}, imm(2))
	written(t, cfg(6, 9, 3, 3), g, life{})
}

// TestSlotsInOrder has handles in any places of the table: roots stand by their places, not by generations, and free ones are none.
func TestSlotsInOrder(t *testing.T) {
	s, _ := heap(cfg(8, 0, 6, 4), false, 0, gr(nodes(node(0, nil), node(1, nil), node(2, nil))))
	s.Slots = []api.Slot{{Gen: 4}, used(9, refWord(2)), {}, used(1, refWord(0)), used(5, refWord(2)), {Gen: maxGen}}
	g := gr(nodes(node(0, nil), node(1, nil), node(2, nil)), ref(2), ref(0), ref(2))
	tells(t, s, g, places(0, 1, 2), vals(ref(2), ref(0), ref(2)), life{2, 2, 0, 0})
	s.Slots[0], s.Slots[5] = used(maxGen-1, refWord(1)), used(0, immWord(8))
	g.Roots = vals(ref(1), ref(2), ref(0), ref(2), imm(8))
	tells(t, s, g, places(0, 1, 2), vals(ref(1), ref(2), ref(0), ref(2), imm(8)), life{3, 3, 0, 0})
}

// TestWordsThatLookLikeReferences has raw words, and words that no object has, that are references' words and headers: none of them is turned.
func TestWordsThatLookLikeReferences(t *testing.T) {
	g := gr(nodes(
		node(7, vals(ref(1)), 2, 6, 10, 3, 259),
		node(8, nil, 0, 1, 2, 3, 4, 5, 6, 7),
		node(9, vals(imm(0), imm(1), imm(2)), 14),
	), ref(0))
	written(t, cfg(40, 30, 2, 20), g, life{2, 7 + 9, 0, 1})
	s, at := heap(cfg(40, 30, 2, 20), true, 0, g)
	for i := s.Top; i < len(s.Words); i++ {
		s.Words[i] = refWord(40)
	}
	for i := range 40 {
		s.Words[i] = headWord(1, 1, 0)
	}
	tells(t, s, g, at, vals(ref(40)), life{2, 7 + 9, 0, 1})
}

// TestAddressesThatAreNodesPlaces has references whose addresses are other nodes' numbers, and the other way round.
func TestAddressesThatAreNodesPlaces(t *testing.T) {
	g := gr(nodes(node(0, nil), node(1, vals(ref(3))), node(2, nil), node(3, vals(ref(1), ref(4))), node(4, nil)), ref(1), ref(3))
	s, _ := heap(cfg(12, 0, 2, 3), false, 0, g)
	if s.Words[2] != refWord(4) || s.Slots[1].Word != refWord(4) {
		t.Fatal("the heap is not what it should be")
	}
	tells(t, s, g, places(0, 1, 3, 4, 7), vals(ref(1), ref(4)), life{3, 2 + 3 + 1, 0, 3})
}

// TestWhatIsSmall has objects of as many words as the limit says, and of one more.
func TestWhatIsSmall(t *testing.T) {
	chain := nodes(
		node(0, vals(ref(1))), node(0, vals(ref(2)), 1), node(0, vals(ref(3)), 1, 2),
		node(0, vals(ref(4)), 1, 2, 3), node(0, vals(ref(5)), 1, 2, 3, 4), node(0, nil, 1, 2, 3, 4, 5),
	)
	want := map[int]life{
		1: {6, 0, 26, 5}, 2: {6, 2, 24, 5}, 3: {6, 5, 21, 5}, 4: {6, 9, 17, 5},
		5: {6, 14, 12, 5}, 6: {6, 26, 0, 5}, 7: {6, 26, 0, 5}, 30: {6, 26, 0, 5},
	}
	for limit, live := range want {
		written(t, cfg(30, 60, 3, limit), gr(chain, ref(0)), live)
		written(t, cfg(30, 60, 3, limit), gr(chain, ref(0), ref(0), ref(0)), live)
		written(t, cfg(30, 60, 3, limit), gr(chain), life{})
	}
	written(t, cfg(30, 60, 3, 4), gr(chain, ref(3)), life{3, 0, 5 + 6 + 6, 2})
	written(t, cfg(30, 60, 3, 4), gr(chain, ref(2), imm(1)), life{4, 4, 5 + 6 + 6, 3})
}

func TestRingsAndWhatIsShared(t *testing.T) {
	ring := nodes(node(1, vals(ref(1), ref(1))), node(1, vals(ref(2))), node(1, vals(ref(0), ref(2))))
	written(t, cfg(20, 0, 4, 3), gr(ring, ref(2), ref(1), ref(0)), life{3, 8, 0, 5})
	written(t, cfg(20, 0, 4, 3), gr(ring, ref(1)), life{3, 8, 0, 5})
	written(t, cfg(20, 0, 4, 3), gr(ring), life{})
	large := nodes(node(1, vals(ref(1))), node(1, vals(ref(2), ref(2), ref(3))), node(1, vals(ref(1), ref(1)), 5), node(2, vals(ref(0), ref(2), ref(3)), 9))
	written(t, cfg(20, 40, 4, 2), gr(large, ref(0)), life{4, 2, 4 + 4 + 5, 9})
	written(t, cfg(20, 40, 4, 2), gr(large, ref(2)), life{4, 2, 4 + 4 + 5, 9})
	large[3].Fields = vals(ref(3), api.Val{}, imm(1))
	written(t, cfg(20, 40, 4, 2), gr(large, ref(2)), life{3, 0, 4 + 4 + 5, 8})
}

func TestKindsAndSizes(t *testing.T) {
	for kind := range 32 {
		written(t, cfg(4, 9, 1, 2), gr(nodes(node(kind, vals(ref(0))), node(31-kind, vals(ref(0)), 1)), ref(1)), life{2, 2, 3, 2})
	}
	for fields := range 6 {
		for raws := range 6 {
			n := node(3, slices.Repeat(vals(imm(4)), fields), slices.Repeat([]uint64{9}, raws)...)
			live := life{objects: 1, small: 1 + fields + raws, fields: fields}
			if live.small > 5 {
				live.small, live.large = 0, live.small
			}
			written(t, cfg(12, 24, 1, 5), gr(nodes(n), ref(0)), live)
		}
	}
}

// TestGreatObjects has objects of as many fields and raw words as may be.
func TestGreatObjects(t *testing.T) {
	fields := make([]api.Val, maxFields)
	raws := make([]uint64, maxRaws)
	for i := range maxFields {
		fields[i] = ref(int64(i % 2))
		raws[i] = uint64(i)
	}
	g := gr(nodes(node(31, fields, raws...), node(30, fields, raws...)), ref(1))
	all := 1 + maxFields + maxRaws
	written(t, cfg(maxSemi, maxLarge, 1, all-1), g, life{2, 0, 2 * all, 2 * maxFields})
	written(t, cfg(maxSemi, maxLarge, 1, all), g, life{2, 2 * all, 0, 2 * maxFields})
}

// change is full with something changed.
type change struct {
	name string
	do   func(s *api.State)
}

// changed asks of full, in both halves, behind each change.
func changed(t *testing.T, changes []change, ask func(name string, was, s api.State)) {
	t.Helper()
	for _, second := range []bool{false, true} {
		for _, c := range changes {
			s := full(second)
			c.do(&s)
			ask(c.name, full(second), s)
			if t.Failed() {
				t.Fatalf("%s, second %v", c.name, second)
			}
		}
	}
}

func (c change) number() int {
	return int(c.name[0] - '0')
}

// TestHeapsThatMayNotBe breaks each rule of 15's Check; the number of the rule stands ahead of what is done.
func TestHeapsThatMayNotBe(t *testing.T) {
	changes := []change{
		{"1 no config", func(s *api.State) { s.Config = api.Config{} }},
		{"1 no limit", func(s *api.State) { s.Config.Limit = 0 }},
		{"1 a limit beyond the half", func(s *api.State) { s.Config.Limit = 13 }},
		{"1 a great half", func(s *api.State) { s.Config.Semi = math.MaxInt }},
		{"1 a half below 0", func(s *api.State) { s.Config.Semi = -12 }},
		{"1 slots below 0", func(s *api.State) { s.Config.Slots = -1 }},
		{"1 nothing at all", func(s *api.State) { *s = api.State{} }},
		{"2 no words", func(s *api.State) { s.Words = nil }},
		{"2 a word too few", func(s *api.State) { s.Words = s.Words[:47] }},
		{"2 a word too many", func(s *api.State) { s.Words = append(s.Words, 0) }},
		{"2 too many for any heap", func(s *api.State) { s.Words = make([]uint64, maxWords+1) }},
		{"3 a top below the half", func(s *api.State) { s.Top = half(*s) - 1 }},
		{"3 a top behind the half", func(s *api.State) { s.Top = half(*s) + 13 }},
		{"3 a top far off", func(s *api.State) { s.Top = math.MaxInt }},
		{"3 a top far below", func(s *api.State) { s.Top = math.MinInt }},
		{"3 the other half", func(s *api.State) { s.Second = !s.Second }},
		{"4 no header", func(s *api.State) { s.Words[half(*s)+3] = 0 }},
		{"4 a top in an object", func(s *api.State) { s.Top-- }},
		{"4 a top behind the objects", func(s *api.State) { s.Top++ }},
		{"4 an object beyond the top", func(s *api.State) { s.Words[half(*s)+8] = headWord(0, 0, 2) }},
		{"4 an object beyond the heap", func(s *api.State) { s.Words[half(*s)+8] = headWord(0, maxFields, maxRaws) }},
		{"4 a forwarded one", func(s *api.State) { s.Words[half(*s)] = refWord(half(*s)) }},
		{"5 a mark", func(s *api.State) { s.Words[half(*s)] |= 4 }},
		{"5 a cursor", func(s *api.State) { s.Words[half(*s)+8] |= 1 << 40 }},
		{"5 a limit that is less", func(s *api.State) { s.Config.Limit = 3 }},
		{"6 no table", func(s *api.State) { s.Table = nil }},
		{"6 no free words", func(s *api.State) { s.Free = nil }},
		{"6 a mark", func(s *api.State) { s.Words[33] |= 4 }},
		{"6 a cursor", func(s *api.State) { s.Words[38] |= 1 << 40 }},
		{"6 one that would be small", func(s *api.State) { s.Config.Limit = 5 }},
		{"6 a shorter one", func(s *api.State) { s.Words[38] = headWord(0, 3, 0) }},
		{"6 a span far off", func(s *api.State) { s.Table[0].At = math.MaxInt }},
		{"6 a span below 0", func(s *api.State) { s.Table[0].At = -1 }},
		{"7 no slots", func(s *api.State) { s.Slots = nil }},
		{"7 a slot too many", func(s *api.State) { s.Slots = append(s.Slots, api.Slot{}) }},
		{"7 a generation below 0", func(s *api.State) { s.Slots[0].Gen = -1 }},
		{"7 a word of a free one", func(s *api.State) { s.Slots[1].Word = 5 }},
		{"7 no value", func(s *api.State) { s.Slots[0].Word = 3 }},
		{"8 no value", func(s *api.State) { s.Words[27] = 3 }},
		{"8 nil with a number", func(s *api.State) { s.Words[29] = 4 }},
		{"8 to no object", func(s *api.State) { s.Words[half(*s)+1] = refWord(half(*s) + 1) }},
		{"8 to the other half", func(s *api.State) { s.Words[half(*s)+1] = refWord(12 - half(*s)) }},
		{"8 far off", func(s *api.State) { s.Words[41] = refWord(maxAt) }},
		{"8 of what is not met", func(s *api.State) { s.Words[half(*s)+5] = refWord(32) }},
		{"8 to one that is gone", func(s *api.State) { s.Table = s.Table[:2]; s.Free = []api.Span{sp(24, 2), sp(32, 1), sp(38, 10)} }},
		{"9 to no object", func(s *api.State) { s.Slots[7].Word = refWord(half(*s) + 9) }},
		{"9 to free words", func(s *api.State) { s.Slots[2].Word = refWord(24) }},
		{"9 far off", func(s *api.State) { s.Slots[0].Word = refWord(maxAt) }},
	}
	for _, c := range changes {
		s := full(false)
		c.do(&s)
		if n := state.Check(s); n != c.number() {
			t.Errorf("%s: %d", c.name, n)
		}
	}
	changed(t, changes, func(name string, was, s api.State) { refuses(t, name, s) })
}

// TestWhatAlikeDoesNotSee changes what no root leads to, and what is not of the graph.
func TestWhatAlikeDoesNotSee(t *testing.T) {
	changed(t, []change{
		{"nothing", func(s *api.State) {}},
		{"a kind that is not met", func(s *api.State) { s.Words[half(*s)+4] = headWord(9, 2, 1) }},
		{"a field that is not met", func(s *api.State) { s.Words[half(*s)+5] = refWord(half(*s)) }},
		{"a raw word that is not met", func(s *api.State) { s.Words[half(*s)+7] = 1 }},
		{"a raw word of a large one that is not met", func(s *api.State) { s.Words[34] = 9 }},
		{"words that no object has", func(s *api.State) { s.Words[43], s.Words[24], s.Words[half(*s)+11], s.Words[12-half(*s)] = 0, 1, 2, 3 }},
		{"generations", func(s *api.State) { s.Slots[0].Gen, s.Slots[1].Gen, s.Slots[4].Gen = 7, 8, 9 }},
		{"other slots, in the same order", func(s *api.State) { s.Slots[0], s.Slots[1] = s.Slots[1], s.Slots[0] }},
		{"slots further behind", func(s *api.State) { s.Slots[4], s.Slots[5] = s.Slots[5], s.Slots[4] }},
		{"more slots", func(s *api.State) { s.Config.Slots = 9; s.Slots = append(s.Slots, api.Slot{Gen: 2}) }},
		{"one object more", func(s *api.State) { s.Words[s.Top] = headWord(8, 0, 0); s.Top++ }},
		{"another large object", func(s *api.State) {
			s.Words[43] = headWord(9, 0, 4)
			s.Table = append(s.Table, sp(43, 5))
			s.Free = s.Free[:2]
		}},
		{"one that is not met goes", func(s *api.State) {
			s.Words[half(*s)+5] = 0
			s.Table = []api.Span{sp(26, 6), sp(38, 5)}
			s.Free = []api.Span{sp(24, 2), sp(32, 6), sp(43, 5)}
		}},
	}, func(name string, was, s api.State) { compares(t, name, was, s, true) })
}

func TestWhatAlikeSees(t *testing.T) {
	changed(t, []change{
		{"a kind", func(s *api.State) { s.Words[half(*s)+3] = headWord(2, 0, 0) }},
		{"a kind of a large one", func(s *api.State) { s.Words[38] = headWord(1, 3, 1) }},
		{"a field to another one", func(s *api.State) { s.Words[half(*s)+1] = refWord(half(*s)) }},
		{"a field to one that was not met", func(s *api.State) { s.Words[half(*s)+1] = refWord(half(*s) + 4) }},
		{"a field that is nil", func(s *api.State) { s.Words[half(*s)+2] = 0 }},
		{"a field that is its place", func(s *api.State) { s.Words[half(*s)+1] = immWord(1) }},
		{"a field that is its address", func(s *api.State) { s.Words[half(*s)+1] = immWord(int64(half(*s) + 3)) }},
		{"a number", func(s *api.State) { s.Words[31] = immWord(8) }},
		{"a number that was nil", func(s *api.State) { s.Words[29] = immWord(0) }},
		{"a raw word", func(s *api.State) { s.Words[half(*s)+9] = 4 }},
		{"a raw word of a large one", func(s *api.State) { s.Words[42] = 8 }},
		{"a field for a raw word", func(s *api.State) { s.Words[42] = immWord(1); s.Words[38] = headWord(0, 4, 0) }},
		{"a raw word for a field", func(s *api.State) { s.Words[38] = headWord(0, 2, 2) }},
		{"a root to another one", func(s *api.State) { s.Slots[7].Word = refWord(26) }},
		{"a root that is nil", func(s *api.State) { s.Slots[7].Word = 0 }},
		{"a root less", func(s *api.State) { s.Slots[7] = api.Slot{Gen: 1} }},
		{"a root more", func(s *api.State) { s.Slots[1] = used(1, refWord(half(*s))) }},
		{"a root more that is nil", func(s *api.State) { s.Slots[5] = used(1, 0) }},
		{"roots in another order", func(s *api.State) { s.Slots[0], s.Slots[2] = s.Slots[2], s.Slots[0] }},
		{"no roots", func(s *api.State) { s.Slots = make([]api.Slot, 8) }},
	}, func(name string, was, s api.State) { compares(t, name, was, s, false) })
}

// TestAlikeOfOtherOrders writes nodes down in all orders, and in heaps of other sizes.
func TestAlikeOfOtherOrders(t *testing.T) {
	g := gr(nodes(node(0, vals(ref(1), ref(2))), node(0, vals(ref(2)), 1), node(0, vals(ref(0), ref(3)), 1), node(0, nil, 2, 3)), ref(0), ref(3))
	first, _ := heap(cfg(14, 0, 2, 4), false, 0, g)
	for _, order := range [][]int{{0, 1, 2, 3}, {3, 2, 1, 0}, {1, 0, 3, 2}, {2, 3, 0, 1}, {0, 3, 1, 2}} {
		moved := renumbered(g, order)
		small, _ := heap(cfg(20, 9, 5, 4), true, 2, moved)
		compares(t, "another order", first, small, true)
		large, _ := heap(cfg(3, 30, 2, 1), false, 1, moved)
		compares(t, "all of them large", first, large, true)
		moved.Roots[1] = moved.Roots[0]
		other, _ := heap(cfg(20, 9, 5, 4), true, 2, moved)
		compares(t, "another root", first, other, false)
	}
}

// renumbered is g with the node order[i] at the place i.
func renumbered(g api.Graph, order []int) api.Graph {
	turn := func(l []api.Val) []api.Val {
		l = slices.Clone(l)
		for i, v := range l {
			if v.Kind == 2 {
				l[i].X = int64(slices.Index(order, int(v.X)))
			}
		}
		return l
	}
	now := api.Graph{Roots: turn(g.Roots)}
	for _, i := range order {
		n := g.Nodes[i]
		now.Nodes = append(now.Nodes, node(n.Kind, turn(n.Fields), n.Raws...))
	}
	return now
}

// TestAllOfTheLeastHeaps goes over all words of a half, tops, and slots; heaps that may not be are refused.
func TestAllOfTheLeastHeaps(t *testing.T) {
	words := []uint64{0, 1, 2, 6, 10, 3, 8*5 + 3, 256 + 3, 1<<24 + 3, 512 + 3}
	slots := []api.Slot{{}, used(0, 2), used(1, 6), used(2, 10), used(0, 5), used(0, 0)}
	some := 0
	for i := range 1000 {
		for top := range 4 {
			for _, slot := range slots {
				s := api.State{Config: cfg(3, 0, 1, 3), Words: []uint64{words[i%10], words[i/10%10], words[i/100], 0, 0, 0}, Top: top, Slots: []api.Slot{slot}}
				if state.Check(s) == 0 {
					agrees(t, s)
					some++
				} else {
					refuses(t, "of all", s)
				}
			}
		}
	}
	if some < 1000 {
		t.Errorf("only %d heaps may be", some)
	}
}

// numbers tells numbers that look like chance, the same ones each time.
func numbers(seed uint64) func(n int) int {
	return func(n int) int {
		seed = seed*6364136223846793005 + 1442695040888963407
		return int(seed>>33) % n
	}
}

// anyHeap is a heap that may be, of up to most objects.
func anyHeap(pick func(n int) int, most int) api.State {
	limit := 1 + pick(7)
	var small, large []api.Node
	for range pick(most + 1) {
		n := node(pick(32), make([]api.Val, pick(5)), make([]uint64, pick(4))...)
		if sizeOf(n) <= limit {
			small = append(small, n)
		} else {
			large = append(large, n)
		}
	}
	g := gr(append(small, large...))
	value := func() api.Val {
		switch pick(5) {
		case 0:
			return api.Val{}
		case 1:
			return imm(int64(pick(9) - 4))
		}
		if len(g.Nodes) == 0 {
			return imm(9)
		}
		return ref(int64(pick(len(g.Nodes))))
	}
	for _, n := range g.Nodes {
		for i := range n.Fields {
			n.Fields[i] = value()
		}
		for i := range n.Raws {
			n.Raws[i] = uint64(pick(1 << 30))
		}
	}
	for range pick(4) {
		g.Roots = append(g.Roots, value())
	}
	s, _ := heap(cfg(8*most+8, 12*most, 4, limit), pick(2) == 1, pick(3), g)
	return mixed(s, pick)
}

// mixed is s with its slots in another order.
func mixed(s api.State, pick func(n int) int) api.State {
	for i := range s.Slots {
		k := pick(i + 1)
		s.Slots[i], s.Slots[k] = s.Slots[k], s.Slots[i]
	}
	return s
}

func TestManyHeaps(t *testing.T) {
	pick := numbers(19)
	for i := range 4000 {
		s := anyHeap(pick, 1+i%12)
		agrees(t, s)
		if i%100 == 0 {
			refuses(t, "of none", api.State{})
		}
	}
}

func TestManyPairs(t *testing.T) {
	pick := numbers(7)
	alike := 0
	for range 3000 {
		a, b := anyHeap(pick, 2), anyHeap(pick, 2)
		want := slowAlike(a, b)
		compares(t, "of many", a, b, want)
		if want {
			alike++
		}
	}
	if alike < 50 || alike > 2000 {
		t.Errorf("%d of 3000 pairs are alike", alike)
	}
}

func TestTheSameAgain(t *testing.T) {
	s := full(true)
	for range 20 {
		tells(t, s, fullGraph(), places(12, 15, 16, 20, 26, 33, 38), slowValues(s), life{5, 6, 11, 10})
		refuses(t, "none", api.State{})
		agrees(t, full(false))
	}
}

// scratch writes over all lists of g, and behind their ends.
func scratch(g api.Graph) {
	for _, n := range g.Nodes {
		scratchVals(n.Fields)
		raws := n.Raws[:cap(n.Raws)]
		for i := range raws {
			raws[i] = 77
		}
	}
	l := g.Nodes[:cap(g.Nodes)]
	for i := range l {
		l[i] = node(-9, vals(ref(-9)), 9)
	}
	scratchVals(g.Roots)
}

func scratchVals(l []api.Val) {
	l = l[:cap(l)]
	for i := range l {
		l[i] = val(-9, -9)
	}
}

func TestAnswersAreNew(t *testing.T) {
	s := full(false)
	was := deep(s)
	one, atOne, _ := lift.Lift(s)
	other, atOther, _ := lift.Lift(s)
	scratch(one)
	all := atOne[:cap(atOne)]
	for i := range all {
		all[i] = -9
	}
	if !equal(other, fullGraph()) || !slices.Equal(atOther, places(0, 3, 4, 8, 26, 33, 38)) {
		t.Errorf("two answers share a list: %+v %v", other, atOther)
	}
	v, _ := lift.Values(s)
	w, _ := lift.Values(s)
	scratchVals(v)
	if !slices.Equal(w, slowValues(was)) {
		t.Errorf("two answers share a list: %v", w)
	}
	if !sameState(s, was) {
		t.Errorf("an answer shares a list with the heap: %+v", s)
	}
}

// TestListsOfAnAnswer writes over one list of an answer after the other: none of the others may change.
func TestListsOfAnAnswer(t *testing.T) {
	want := fullGraph()
	for i := range want.Nodes {
		g, _, _ := lift.Lift(full(false))
		scratch(api.Graph{Nodes: slices.Clone(g.Nodes[i : i+1])})
		got := slices.Delete(slices.Clone(g.Nodes), i, i+1)
		left := slices.Delete(slices.Clone(want.Nodes), i, i+1)
		if !equal(gr(got, g.Roots...), gr(left, want.Roots...)) {
			t.Errorf("the node %d shares a list: %+v", i, g)
		}
	}
	g, _, _ := lift.Lift(full(false))
	scratchVals(g.Roots)
	if !equal(gr(g.Nodes), gr(want.Nodes)) {
		t.Errorf("the roots share a list: %+v", g)
	}
	for i := range g.Nodes {
		scratchVals(g.Nodes[i].Fields)
		if !slices.Equal(g.Nodes[i].Raws, want.Nodes[i].Raws) {
			t.Errorf("fields and raw words of the node %d share a list", i)
		}
	}
}

// TestWhatStandsBehindTheLists has lists that are cut out of longer ones: what is behind their ends stays.
func TestWhatStandsBehindTheLists(t *testing.T) {
	long, s := full(true), full(true)
	long.Words = append(long.Words, slices.Repeat([]uint64{9}, 50)...)
	long.Table = append(long.Table, slices.Repeat([]api.Span{sp(9, 9)}, 9)...)
	long.Free = append(long.Free, slices.Repeat([]api.Span{sp(9, 9)}, 9)...)
	long.Slots = append(long.Slots, slices.Repeat([]api.Slot{used(9, 9)}, 20)...)
	s.Words, s.Table, s.Free, s.Slots = long.Words[:48], long.Table[:3], long.Free[:3], long.Slots[:8]
	was := deep(long)
	agrees(t, s)
	compares(t, "cut out", s, full(false), true)
	s.Top--
	refuses(t, "cut out", s)
	if !sameState(long, was) {
		t.Errorf("it was %+v, and is %+v now", was, long)
	}
}

// TestTheHeapMayChangeBehindTheCall writes over the heap: what was told stays.
func TestTheHeapMayChangeBehindTheCall(t *testing.T) {
	s := full(false)
	g, at, _ := lift.Lift(s)
	v, _ := lift.Values(s)
	for i := range s.Words {
		s.Words[i] = 9
	}
	for i := range s.Slots {
		s.Slots[i] = used(9, immWord(9))
	}
	clear(s.Table)
	if !equal(g, fullGraph()) || !slices.Equal(at, places(0, 3, 4, 8, 26, 33, 38)) || !slices.Equal(v, slowValues(full(false))) {
		t.Errorf("an answer has changed with the heap: %+v %v %v", g, at, v)
	}
}

// chain is a heap whose objects lead to one another, each one to the next, or to the one ahead; all words of both parts are taken.
func chain(back bool) (api.State, api.Graph) {
	n := maxSemi/2 + maxLarge/4
	var g api.Graph
	for i := range n {
		next := int64(i + 1)
		if back {
			next = int64(i - 1)
		}
		v := api.Val{}
		if next >= 0 && next < int64(n) {
			v = ref(next)
		}
		if i < maxSemi/2 {
			g.Nodes = append(g.Nodes, node(i%32, vals(v)))
		} else {
			g.Nodes = append(g.Nodes, node(i%32, vals(v), 1, 2))
		}
	}
	g.Roots = vals(ref(0))
	if back {
		g.Roots = vals(ref(int64(n - 1)))
	}
	s, _ := heap(cfg(maxSemi, maxLarge, maxSlots, 2), back, 0, g)
	return s, g
}

func TestLongChains(t *testing.T) {
	defer debug.SetMaxStack(debug.SetMaxStack(1 << 20))
	forth, g := chain(false)
	back, h := chain(true)
	for _, c := range []struct {
		s api.State
		g api.Graph
	}{{forth, g}, {back, h}} {
		got, at, err := lift.Lift(c.s)
		if err != api.OK || !equal(got, c.g) || len(at) != len(c.g.Nodes) {
			t.Errorf("Lift of a chain is not the chain: %d", err)
		}
		a, b, l, d, err := lift.Live(c.s)
		if (life{a, b, l, d}) != (life{len(c.g.Nodes), maxSemi, maxLarge, len(c.g.Nodes)}) || err != api.OK {
			t.Errorf("Live of a chain: %d %d %d %d %d", a, b, l, d, err)
		}
	}
	if lift.Alike(forth, back) || !lift.Alike(forth, deep(forth)) {
		t.Error("a chain is alike to another one, or not to itself")
	}
}

// TestTheGreatestHeap has as many objects and slots as may be.
func TestTheGreatestHeap(t *testing.T) {
	var g api.Graph
	for i := range maxSemi {
		g.Nodes = append(g.Nodes, node(i%32, nil))
	}
	for i := range maxLarge / 2 {
		g.Nodes = append(g.Nodes, node(i%32, vals(ref(int64(len(g.Nodes)/2)))))
	}
	for i := range maxSlots {
		g.Roots = append(g.Roots, ref(int64(len(g.Nodes)-1-i)))
	}
	s, at := heap(cfg(maxSemi, maxLarge, maxSlots, 1), true, 0, g)
	tells(t, s, g, at, slowValues(s), slowLive(s))
}
