package reach_test

import (
	"math"
	"runtime/debug"
	"slices"
	"testing"

	"triforium/api"
	"triforium/reach"
)

// The chapters' numbers, in digits: a limit that is changed in api would be told here.
const (
	maxFields = 4096
	maxRaws   = 4096
	maxAt     = 1099511627776
	maxImm    = 2305843009213693951
	minImm    = -2305843009213693952
)

// The orders' numbers.
const (
	breadth = 0
	depth   = 1
	tiers   = 2
)

func val(kind int, x int64) api.Val { return api.Val{Kind: kind, X: x} }

func imm(x int64) api.Val { return val(1, x) }

func ref(x int64) api.Val { return val(2, x) }

// refs are references to all places of l.
func refs(l ...int) []api.Val {
	var vals []api.Val
	for _, x := range l {
		vals = append(vals, ref(int64(x)))
	}
	return vals
}

// node has so many words more than its header and its fields, which lead to the places of l.
func node(raws int, l ...int) api.Node {
	return api.Node{Fields: refs(l...), Raws: make([]uint64, raws)}
}

func nodes(l ...api.Node) []api.Node { return l }

// gr is a graph whose roots lead to the places of roots.
func gr(l []api.Node, roots ...int) api.Graph { return api.Graph{Nodes: l, Roots: refs(roots...)} }

func places(l ...int) []int { return l }

func sizeOf(n api.Node) int { return 1 + len(n.Fields) + len(n.Raws) }

// deep is g with lists of its own, made here.
func deep(g api.Graph) api.Graph {
	c := api.Graph{Roots: slices.Clone(g.Roots)}
	for _, n := range g.Nodes {
		c.Nodes = append(c.Nodes, api.Node{Kind: n.Kind, Fields: slices.Clone(n.Fields), Raws: slices.Clone(n.Raws)})
	}
	return c
}

// equal tells whether a and b are the same in all, lists of no length held for the same.
func equal(a, b api.Graph) bool {
	same := func(n, m api.Node) bool {
		return n.Kind == m.Kind && slices.Equal(n.Fields, m.Fields) && slices.Equal(n.Raws, m.Raws)
	}
	return slices.EqualFunc(a.Nodes, b.Nodes, same) && slices.Equal(a.Roots, b.Roots)
}

// slow goes by a plan as the chapter says it: what is to be looked at is searched for among all that was met.
type slow struct {
	g            api.Graph
	limit, block int
	small, large []int
	pile         []int
	offset       map[int]int
	looked       map[int]bool
}

// meet tells whether v leads to a small node that was not met ahead.
func (s *slow) meet(v api.Val) bool {
	at := int(v.X)
	if v.Kind != 2 || slices.Contains(s.small, at) || slices.Contains(s.large, at) {
		return false
	}
	if sizeOf(s.g.Nodes[at]) > s.limit {
		s.large = append(s.large, at)
		s.pile = append([]int{at}, s.pile...)
		return false
	}
	for _, i := range s.small {
		s.offset[at] += sizeOf(s.g.Nodes[i])
	}
	s.small = append(s.small, at)
	return true
}

// down meets what each of l leads to, and looks at it at once.
func (s *slow) down(l []api.Val) {
	for _, v := range l {
		if s.meet(v) {
			s.down(s.g.Nodes[v.X].Fields)
		}
	}
}

func (s *slow) wide(l []api.Val) {
	for _, v := range l {
		s.meet(v)
	}
}

// next searches for the small node to be looked at; -1, if there is none.
func (s *slow) next(order int) int {
	first := -1
	for _, i := range slices.Backward(s.small) {
		if !s.looked[i] {
			first = i
		}
	}
	if order == breadth || first < 0 {
		return first
	}
	last := s.small[len(s.small)-1]
	for _, i := range s.small {
		if !s.looked[i] && s.offset[i]/s.block == s.offset[last]/s.block {
			return i
		}
	}
	return first
}

func slowPlan(g api.Graph, limit, order, block int) ([]int, []int) {
	s := &slow{g: g, limit: limit, block: block, offset: map[int]int{}, looked: map[int]bool{}}
	look := s.wide
	if order == depth {
		look = s.down
	}
	look(g.Roots)
	for {
		if order != depth {
			if i := s.next(order); i >= 0 {
				s.looked[i] = true
				look(g.Nodes[i].Fields)
				continue
			}
		}
		if len(s.pile) == 0 {
			return s.small, s.large
		}
		top := s.pile[0]
		s.pile = s.pile[1:]
		look(g.Nodes[top].Fields)
	}
}

// slowReach spreads what is met over all nodes, till nothing is added.
func slowReach(g api.Graph) []int {
	met := make([]bool, len(g.Nodes))
	added := true
	spread := func(l []api.Val) {
		for _, v := range l {
			if v.Kind == 2 && !met[v.X] {
				met[v.X] = true
				added = true
			}
		}
	}
	for added {
		added = false
		spread(g.Roots)
		for i, n := range g.Nodes {
			if met[i] {
				spread(n.Fields)
			}
		}
	}
	var l []int
	for i, is := range met {
		if is {
			l = append(l, i)
		}
	}
	return l
}

// short tells what is to be seen of g: all of it, if it is small.
func short(g api.Graph) any {
	words := len(g.Roots)
	for _, n := range g.Nodes {
		words += sizeOf(n)
	}
	if words > 100 {
		return words
	}
	return g
}

func plans(t *testing.T, g api.Graph, limit, order, block int, small, large []int) {
	t.Helper()
	s, l, err := reach.Plan(g, limit, order, block)
	if err != 0 || !slices.Equal(s, small) || !slices.Equal(l, large) {
		t.Errorf("Plan(%v, %d, %d, %d): %v %v %d, want %v %v", short(g), limit, order, block, s, l, err, small, large)
	}
}

// plansAll asks for one plan of each block that is given.
func plansAll(t *testing.T, g api.Graph, limit, order int, small, large []int, blocks ...int) {
	t.Helper()
	for _, block := range blocks {
		plans(t, g, limit, order, block, small, large)
	}
}

func refuses(t *testing.T, g api.Graph, limit, order, block int, want api.Errno) {
	t.Helper()
	s, l, err := reach.Plan(g, limit, order, block)
	if err != want || len(s) != 0 || len(l) != 0 {
		t.Errorf("Plan(%v, %d, %d, %d): %v %v %d, want %d", short(g), limit, order, block, s, l, err, want)
	}
}

type list func(api.Graph) ([]int, api.Errno)

func lists(t *testing.T, name string, call list, g api.Graph, want ...int) {
	t.Helper()
	l, err := call(g)
	if err != 0 || !slices.Equal(l, want) {
		t.Errorf("%s(%v): %v %d, want %v", name, short(g), l, err, want)
	}
}

func breadths(t *testing.T, g api.Graph, want ...int) {
	t.Helper()
	lists(t, "Breadth", reach.Breadth, g, want...)
}

func depths(t *testing.T, g api.Graph, want ...int) {
	t.Helper()
	lists(t, "Depth", reach.Depth, g, want...)
}

func reaches(t *testing.T, g api.Graph, want ...int) {
	t.Helper()
	lists(t, "Reach", reach.Reach, g, want...)
}

func lives(t *testing.T, g api.Graph, limit, small, large, fields int) {
	t.Helper()
	s, l, f, err := reach.Live(g, limit)
	if err != 0 || s != small || l != large || f != fields {
		t.Errorf("Live(%v, %d): %d %d %d %d, want %d %d %d", short(g), limit, s, l, f, err, small, large, fields)
	}
}

func livesNot(t *testing.T, g api.Graph, limit int, want api.Errno) {
	t.Helper()
	s, l, f, err := reach.Live(g, limit)
	if err != want || s != 0 || l != 0 || f != 0 {
		t.Errorf("Live(%v, %d): %d %d %d %d, want %d", short(g), limit, s, l, f, err, want)
	}
}

// The chapter's example.
func TestBreadthAndDepthDiffer(t *testing.T) {
	g := gr(nodes(node(0, 1, 2), node(0, 3), node(0), node(0)), 0)
	breadths(t, g, 0, 1, 2, 3)
	depths(t, g, 0, 1, 3, 2)
	reaches(t, g, 0, 1, 2, 3)
}

func TestNothingIsMet(t *testing.T) {
	for _, g := range []api.Graph{
		{},
		{Nodes: []api.Node{}, Roots: []api.Val{}},
		gr(nodes(node(0, 1), node(0, 0))),
		{Roots: []api.Val{{}, imm(0), imm(7)}},
		{Nodes: nodes(node(0, 1), node(0)), Roots: []api.Val{{}, imm(1), imm(0)}},
	} {
		breadths(t, g)
		depths(t, g)
		reaches(t, g)
		lives(t, g, 1, 0, 0, 0)
		for _, order := range places(breadth, depth, tiers) {
			plans(t, g, 1, order, 1, nil, nil)
		}
	}
}

// Only references lead to nodes: numbers do not, nor raw words, whatever they are.
func TestOnlyReferencesLead(t *testing.T) {
	g := api.Graph{
		Nodes: nodes(
			api.Node{Kind: 31, Fields: []api.Val{imm(1), {}, ref(2), imm(maxImm), imm(minImm)}, Raws: []uint64{1, 2, 6}},
			node(0, 3),
			node(0),
			node(0, 1),
		),
		Roots: []api.Val{imm(3), ref(0), {}, imm(1), imm(maxAt)},
	}
	breadths(t, g, 0, 2)
	depths(t, g, 0, 2)
	reaches(t, g, 0, 2)
	lives(t, g, 9, 10, 0, 5)
}

func TestEachIsMetOnce(t *testing.T) {
	ring := gr(nodes(node(0, 1), node(0, 2), node(0, 0)), 1, 1, 0)
	breadths(t, ring, 1, 0, 2)
	depths(t, ring, 1, 2, 0)
	reaches(t, ring, 0, 1, 2)
	lives(t, ring, 2, 6, 0, 3)
	lives(t, ring, 1, 0, 6, 3)
	self := gr(nodes(node(0), node(2, 1, 1, 1, 0, 0)), 1, 1, 1)
	breadths(t, self, 1, 0)
	depths(t, self, 1, 0)
	reaches(t, self, 0, 1)
	plans(t, self, 1, depth, 1, places(0), places(1))
	lives(t, self, 1, 1, 8, 5)
	lives(t, self, 7, 1, 8, 5)
	lives(t, self, 8, 9, 0, 5)
}

// Depth meets the roots one by one, breadth all of them at first.
func TestRootsInOrder(t *testing.T) {
	g := gr(nodes(node(0, 4), node(0, 3), node(0), node(0, 2), node(0)), 3, 1, 0)
	breadths(t, g, 3, 1, 0, 2, 4)
	depths(t, g, 3, 2, 1, 0, 4)
	reaches(t, g, 0, 1, 2, 3, 4)
	g = gr(nodes(node(0, 1), node(0), node(0, 0)), 2, 1, 0)
	breadths(t, g, 2, 1, 0)
	depths(t, g, 2, 0, 1)
	g.Roots = refs(0, 0, 2, 1)
	breadths(t, g, 0, 2, 1)
	depths(t, g, 0, 1, 2)
}

// A node is met when its turn has come, not when a field that leads to it is seen the first time.
func TestDepthMeetsFieldByField(t *testing.T) {
	g := gr(nodes(node(0, 1, 2, 3), node(0, 3, 2), node(0), node(0, 4), node(0, 2)), 0)
	depths(t, g, 0, 1, 3, 4, 2)
	breadths(t, g, 0, 1, 2, 3, 4)
	g = gr(nodes(node(0, 1, 2), node(0, 3), node(0), node(0, 2, 4), node(0, 0)), 0, 4)
	depths(t, g, 0, 1, 3, 2, 4)
	breadths(t, g, 0, 4, 1, 2, 3)
}

// With no node large all of them are looked at in order, be they as great as may be.
func TestGreatNodesAreNotLarge(t *testing.T) {
	great := api.Node{Fields: make([]api.Val, maxFields), Raws: make([]uint64, maxRaws)}
	great.Fields[maxFields-1] = ref(3)
	g := gr(nodes(node(0, 1, 2), great, node(0), node(0)), 0)
	breadths(t, g, 0, 1, 2, 3)
	depths(t, g, 0, 1, 3, 2)
	reaches(t, g, 0, 1, 2, 3)
	for _, limit := range places(8193, 8194, 1<<20, 1<<32, math.MaxInt) {
		plans(t, g, limit, breadth, 1, places(0, 1, 2, 3), nil)
		plans(t, g, limit, depth, 1, places(0, 1, 3, 2), nil)
		lives(t, g, limit, 8198, 0, 4098)
	}
	plans(t, g, 8192, breadth, 1, places(0, 2, 3), places(1))
	plans(t, g, 8192, depth, 1, places(0, 2, 3), places(1))
	lives(t, g, 8192, 5, 8193, 4098)
}

func TestReachRises(t *testing.T) {
	g := gr(nodes(node(0), node(0, 0), node(0, 5), node(0), node(0, 1), node(0, 3)), 4, 2)
	breadths(t, g, 4, 2, 1, 5, 0, 3)
	depths(t, g, 4, 1, 0, 2, 5, 3)
	reaches(t, g, 0, 1, 2, 3, 4, 5)
	g.Roots = refs(5, 1)
	reaches(t, g, 0, 1, 3, 5)
	g.Roots = refs(2)
	reaches(t, g, 2, 3, 5)
}

// The limit is the most words that a small node has, fields and raw words alike.
func TestWhichAreSmall(t *testing.T) {
	g := gr(nodes(node(0), node(1), node(0, 0), node(2), node(1, 0), node(0, 0, 0)), 0, 1, 2, 3, 4, 5)
	small := [][]int{{0}, {0, 1, 2}, {0, 1, 2, 3, 4, 5}}
	large := [][]int{{1, 2, 3, 4, 5}, {3, 4, 5}, nil}
	for i := range 3 {
		for _, order := range places(breadth, depth, tiers) {
			plansAll(t, g, i+1, order, small[i], large[i], 1, 2, 5, math.MaxInt)
		}
	}
	lives(t, g, 1, 1, 13, 4)
	lives(t, g, 2, 5, 9, 4)
	lives(t, g, 3, 14, 0, 4)
	lives(t, g, math.MaxInt, 14, 0, 4)
}

// Small ones come first; then the large one that was met last, and what is small behind it comes ahead of the next one.
func TestBreadthTakesLargeOnesOffThePile(t *testing.T) {
	g := gr(nodes(
		node(2, 3),
		node(2, 4),
		node(0, 5),
		node(0),
		node(0, 6),
		node(0),
		node(2, 7),
		node(0),
	), 0, 1, 2)
	for _, order := range places(breadth, depth, tiers) {
		plans(t, g, 2, order, 100, places(2, 5, 4, 7, 3), places(0, 1, 6))
	}
	lives(t, g, 2, 7, 12, 5)
	// All of one large one's fields are met ahead of any small one being looked at.
	g = gr(nodes(node(2, 1, 2), node(0, 3), node(0, 4), node(0), node(0)), 0)
	plans(t, g, 2, breadth, 1, places(1, 2, 3, 4), places(0))
	plans(t, g, 2, tiers, 100, places(1, 2, 3, 4), places(0))
	plans(t, g, 2, depth, 1, places(1, 3, 2, 4), places(0))
}

// Large ones are told as they are met, not as they are looked at.
func TestLargeOnesInTheOrderInWhichTheyAreMet(t *testing.T) {
	g := gr(nodes(
		node(3, 1, 2),
		node(3, 3),
		node(3, 4, 5),
		node(0),
		node(0),
		node(4),
	), 0)
	for _, order := range places(breadth, depth, tiers) {
		plans(t, g, 3, order, 1, places(4, 3), places(0, 1, 2, 5))
	}
	g.Roots = refs(5, 1)
	for _, order := range places(breadth, depth, tiers) {
		plans(t, g, 3, order, 1, places(3), places(5, 1))
	}
}

// Depth comes to the pile behind all roots, and goes down at once from a large one, too.
func TestDepthTakesLargeOnesOffThePile(t *testing.T) {
	g := gr(nodes(
		node(0, 1, 2),
		node(5, 4, 6, 0),
		node(0, 7),
		node(0),
		node(0, 5),
		node(0),
		node(0),
		node(5, 3, 6, 8),
		node(0),
	), 0, 3)
	plans(t, g, 4, depth, 1, places(0, 2, 3, 6, 8, 4, 5), places(1, 7))
	plans(t, g, 4, breadth, 1, places(0, 3, 2, 6, 8, 4, 5), places(1, 7))
	// The small one in between puts a large one on top of those that are there.
	g = gr(nodes(node(4, 1, 2, 3), node(4, 5), node(0, 4), node(0), node(4, 6), node(0), node(0)), 0)
	plans(t, g, 2, depth, 1, places(2, 3, 6, 5), places(0, 1, 4))
	plans(t, g, 2, breadth, 1, places(2, 3, 6, 5), places(0, 1, 4))
}

// Blocks of 4 words: c begins in the last block, and is looked at ahead of b.
func TestTiersKeepToTheLastBlock(t *testing.T) {
	g := gr(nodes(node(0, 1, 2), node(1, 3), node(0, 4), node(0), node(0)), 0)
	plans(t, g, 3, tiers, 4, places(0, 1, 2, 4, 3), nil)
	plans(t, g, 3, breadth, 4, places(0, 1, 2, 3, 4), nil)
	// b begins at the offset 3, c at 6: they begin in one block of 7 words and more, and of no fewer.
	plansAll(t, g, 3, tiers, places(0, 1, 2, 4, 3), nil, 1, 2, 3, 5, 6)
	plansAll(t, g, 3, tiers, places(0, 1, 2, 3, 4), nil, 7, 8, 100, 1<<40, math.MaxInt-1, math.MaxInt)
}

// In blocks of one word nothing else begins where the last one does.
func TestTiersOfOneWord(t *testing.T) {
	g := gr(nodes(node(0, 1, 2), node(0, 3), node(0, 4, 5), node(0), node(0, 6), node(0), node(0)), 0)
	plans(t, g, 9, tiers, 1, places(0, 1, 2, 4, 5, 3, 6), nil)
	plans(t, g, 9, breadth, 1, places(0, 1, 2, 3, 4, 5, 6), nil)
	plans(t, g, 9, depth, 1, places(0, 1, 3, 2, 4, 6, 5), nil)
}

// Is there none in the last block, the first one of all is looked at, not one of a block nearby.
func TestTiersGoBackToTheFirstOne(t *testing.T) {
	g := gr(nodes(
		node(0, 1, 2, 3, 4),
		node(3, 5),
		node(3, 6),
		node(3, 7),
		node(4),
		node(4, 8),
		node(4),
		node(4),
		node(4),
	), 0)
	// The first five begin at 0, 5, 10, 15 and 20: in blocks of 5 words each has its own, in blocks of 10 two have one.
	plansAll(t, g, 9, tiers, places(0, 1, 2, 3, 4, 5, 8, 6, 7), nil, 5, 10)
	g.Nodes[4] = node(3, 6)
	g.Nodes[3] = node(3, 8)
	plans(t, g, 9, tiers, 5, places(0, 1, 2, 3, 4, 6, 5, 8), nil)
}

// What was met in a block that had nothing more to look at is looked at first again.
func TestTiersFillABlockAgain(t *testing.T) {
	g := gr(nodes(
		node(6, 1),
		node(0),
		node(0, 4),
		node(0, 3, 5),
		node(0),
		node(0, 6),
		node(0),
	), 0, 2, 3)
	// 0 at 0, 2 at 8, 3 at 10; blocks of 8: 2 and 3 are looked at ahead of 0.
	plans(t, g, 9, tiers, 8, places(0, 2, 3, 4, 5, 6, 1), nil)
	plans(t, g, 9, tiers, 9, places(0, 2, 3, 5, 6, 1, 4), nil)
	plans(t, g, 9, tiers, 100, places(0, 2, 3, 1, 4, 5, 6), nil)
}

// Large ones take no offset, and are looked at when no small one is left in any block.
func TestTiersAndLargeOnes(t *testing.T) {
	g := gr(nodes(
		node(9, 6),
		node(0, 3),
		node(9, 7),
		node(0),
		node(0, 5),
		node(0),
		node(0, 8),
		node(0),
		node(0),
	), 0, 1, 2, 4)
	// 1 at 0, 4 at 2; in blocks of 2 words 4 is looked at first.
	plans(t, g, 2, tiers, 2, places(1, 4, 5, 3, 7, 6, 8), places(0, 2))
	plansAll(t, g, 2, tiers, places(1, 4, 3, 5, 7, 6, 8), places(0, 2), 3, 4, 5, 100)
	plans(t, g, 10, tiers, 2, places(1, 4, 5, 3, 7, 6, 8), places(0, 2))
	plans(t, g, 11, tiers, 2, places(0, 1, 2, 4, 5, 6, 8, 3, 7), nil)
}

// full is a graph that may be, with all kinds of values, and a node that is not met.
func full() api.Graph {
	return api.Graph{
		Nodes: nodes(
			api.Node{Kind: 31, Fields: []api.Val{ref(1), imm(-1), ref(2)}},
			api.Node{Fields: []api.Val{ref(0), {}, ref(1), ref(1)}, Raws: []uint64{7, math.MaxUint64, 0}},
			api.Node{Kind: 5},
			api.Node{Kind: 6, Fields: []api.Val{imm(maxImm), imm(minImm), ref(5)}, Raws: []uint64{2}},
			api.Node{Kind: 7, Raws: []uint64{1, 2, 3, 4}},
			api.Node{Kind: 8, Fields: []api.Val{{}, ref(4), ref(4)}, Raws: []uint64{6}},
		),
		Roots: []api.Val{ref(5), imm(3), {}, ref(0)},
	}
}

// spoils are ways to make full one that may not be; some spoil what is not met.
func spoils() []func(g *api.Graph) {
	return []func(g *api.Graph){
		func(g *api.Graph) { g.Nodes[0].Kind = -1 },
		func(g *api.Graph) { g.Nodes[3].Kind = 32 },
		func(g *api.Graph) { g.Nodes[2].Fields = make([]api.Val, maxFields+1) },
		func(g *api.Graph) { g.Nodes[3].Raws = make([]uint64, maxRaws+1) },
		func(g *api.Graph) { g.Nodes[0].Fields[0] = ref(6) },
		func(g *api.Graph) { g.Nodes[5].Fields[2] = ref(-1) },
		func(g *api.Graph) { g.Nodes[3].Fields[0] = imm(maxImm + 1) },
		func(g *api.Graph) { g.Nodes[3].Fields[2] = ref(6) },
		func(g *api.Graph) { g.Nodes[1].Fields[1] = val(0, 1) },
		func(g *api.Graph) { g.Nodes[1].Fields[1] = val(3, 0) },
		func(g *api.Graph) { g.Roots[0] = ref(6) },
		func(g *api.Graph) { g.Roots[1] = imm(minImm - 1) },
		func(g *api.Graph) { g.Roots[3] = ref(math.MaxInt64) },
		func(g *api.Graph) { g.Roots[3] = ref(math.MinInt64) },
		func(g *api.Graph) { g.Nodes = g.Nodes[:5] },
		func(g *api.Graph) { g.Nodes = nil },
	}
}

var wrongSizes = []int{0, -1, -2, -5, -4096, -1 << 32, math.MinInt + 1, math.MinInt}

var wrongOrders = []int{-1, 3, 4, -2, 5, 256, 257, 258, 1 << 32, 1<<32 + 1, 1<<32 + 2, math.MinInt, math.MaxInt}

var rightSizes = []int{1, 2, 3, 8193, 1 << 32, math.MaxInt}

func TestGraphsThatMayNotBe(t *testing.T) {
	for i, spoil := range spoils() {
		g := full()
		spoil(&g)
		for _, call := range []list{reach.Breadth, reach.Depth, reach.Reach} {
			if l, err := call(g); err != api.ErrForm || len(l) != 0 {
				t.Errorf("spoilt by %d: %v %d", i, l, err)
			}
		}
		for _, order := range places(breadth, depth, tiers) {
			refuses(t, g, 3, order, 4, api.ErrForm)
		}
		livesNot(t, g, 3, api.ErrForm)
	}
}

// The graph is asked ahead of all else.
func TestTheFormIsAskedFirst(t *testing.T) {
	for _, spoil := range spoils() {
		g := full()
		spoil(&g)
		for _, x := range wrongSizes {
			refuses(t, g, x, tiers, 1, api.ErrForm)
			refuses(t, g, 1, tiers, x, api.ErrForm)
			refuses(t, g, x, 7, x, api.ErrForm)
			livesNot(t, g, x, api.ErrForm)
		}
		for _, order := range wrongOrders {
			refuses(t, g, 1, order, 1, api.ErrForm)
		}
	}
}

func TestPlanAsksItsNumbers(t *testing.T) {
	for _, g := range []api.Graph{full(), {}, gr(nodes(node(0)), 0)} {
		for _, x := range wrongSizes {
			for _, order := range append(wrongOrders, breadth, depth, tiers) {
				refuses(t, g, x, order, 1, api.ErrArg)
				refuses(t, g, 1, order, x, api.ErrArg)
				refuses(t, g, x, order, x, api.ErrArg)
			}
			livesNot(t, g, x, api.ErrArg)
		}
		for _, order := range wrongOrders {
			for _, x := range rightSizes {
				refuses(t, g, x, order, 1, api.ErrArg)
				refuses(t, g, 1, order, x, api.ErrArg)
			}
		}
		for _, order := range places(breadth, depth, tiers) {
			for _, x := range rightSizes {
				agrees(t, g, x, order, 1)
				agrees(t, g, 1, order, x)
			}
		}
	}
}

func TestLive(t *testing.T) {
	g := full()
	lives(t, g, 1, 1, 22, 10)
	lives(t, g, 3, 1, 22, 10)
	lives(t, g, 4, 5, 18, 10)
	lives(t, g, 5, 15, 8, 10)
	lives(t, g, 7, 15, 8, 10)
	lives(t, g, 8, 23, 0, 10)
	g.Roots = append(g.Roots, ref(3))
	lives(t, g, 4, 5, 23, 13)
	lives(t, g, 5, 20, 8, 13)
	g.Roots = refs(4)
	lives(t, g, 5, 5, 0, 0)
	lives(t, g, 4, 0, 5, 0)
	g.Roots = refs(5)
	lives(t, g, 4, 0, 10, 3)
}

// agrees holds a plan against the slow one.
func agrees(t *testing.T, g api.Graph, limit, order, block int) {
	t.Helper()
	small, large := slowPlan(g, limit, order, block)
	plans(t, g, limit, order, block, small, large)
}

// agreesAll holds all that is told of g against what is found slowly, and g against how it was.
func agreesAll(t *testing.T, g api.Graph, limit, block int) {
	t.Helper()
	was := deep(g)
	all := slowReach(g)
	reaches(t, g, all...)
	for order, call := range []list{reach.Breadth, reach.Depth} {
		want, _ := slowPlan(g, math.MaxInt, order, 1)
		lists(t, "the order", call, g, want...)
	}
	for order := range 3 {
		agrees(t, g, limit, order, block)
		small, large, _ := reach.Plan(g, limit, order, block)
		met := slices.Concat(small, large)
		slices.Sort(met)
		if !slices.Equal(met, all) {
			t.Errorf("the order %d meets %v of %v, want %v", order, met, short(g), all)
		}
	}
	var sums [3]int
	for _, i := range all {
		n := g.Nodes[i]
		sums[2] += len(n.Fields)
		if sizeOf(n) <= limit {
			sums[0] += sizeOf(n)
		} else {
			sums[1] += sizeOf(n)
		}
	}
	lives(t, g, limit, sums[0], sums[1], sums[2])
	if !equal(g, was) {
		t.Errorf("the graph has changed: %v, want %v", short(g), short(was))
	}
}

// numbers tells a row of numbers, always the same one.
func numbers() func(n int) int {
	x := uint64(17)
	return func(n int) int {
		x = x*6364136223846793005 + 1442695040888963407
		return int(x >> 33 % uint64(n))
	}
}

// maybe leads to the place x, or nowhere, if there is no such place of n.
func maybe(x, n int) api.Val {
	if x < n {
		return ref(int64(x))
	}
	return imm(int64(x - n))
}

// All graphs of three nodes with two fields each, and two roots, of any sizes.
func TestAllSmallGraphs(t *testing.T) {
	next := numbers()
	for code := range 1 << 16 {
		digit := func() api.Val {
			x := code % 4
			code /= 4
			return maybe(x, 3)
		}
		g := api.Graph{Roots: []api.Val{digit(), digit()}}
		for range 3 {
			g.Nodes = append(g.Nodes, api.Node{Fields: []api.Val{digit(), digit()}, Raws: make([]uint64, next(4))})
		}
		agreesAll(t, g, 2+next(6), 1+next(8))
		if t.Failed() {
			return
		}
	}
}

func TestManyGraphs(t *testing.T) {
	next := numbers()
	for round := range 20000 {
		n := 1 + next(4+round%24)
		fields := 1 + next(5)
		var g api.Graph
		for range next(4) {
			g.Roots = append(g.Roots, maybe(next(n+1), n))
		}
		for range n {
			o := api.Node{Kind: next(32), Raws: make([]uint64, next(5))}
			for range next(fields + 1) {
				o.Fields = append(o.Fields, maybe(next(n+2), n))
			}
			g.Nodes = append(g.Nodes, o)
		}
		agreesAll(t, g, 1+next(10), 1+next(20))
		if t.Failed() {
			return
		}
	}
}

// What is told hangs on nothing but what is handed in.
func TestTheSameAgain(t *testing.T) {
	next := numbers()
	var g api.Graph
	for range 300 {
		g.Nodes = append(g.Nodes, node(next(4), next(300), next(300), next(300)))
	}
	g.Roots = refs(7, 3, 99)
	for order := range 3 {
		small, large, _ := reach.Plan(g, 6, order, 10)
		if len(small) < 20 || len(large) < 20 {
			t.Fatalf("the order %d: too few are met", order)
		}
		for range 20 {
			plans(t, g, 6, order, 10, small, large)
		}
	}
}

// scratch writes over l, and behind its end.
func scratch(l []int) {
	l = l[:cap(l)]
	for i := range l {
		l[i] = -9
	}
}

func TestListsAreNew(t *testing.T) {
	g := gr(nodes(node(0, 1, 2), node(9, 3), node(9, 4), node(0), node(0)), 0)
	for order := range 3 {
		for _, swap := range []bool{false, true} {
			small, large, _ := reach.Plan(g, 4, order, 1)
			a, b := small, large
			if swap {
				a, b = b, a
			}
			kept := slices.Clone(b)
			scratch(a)
			if !slices.Equal(b, kept) {
				t.Errorf("the order %d: the one list changes with the other one", order)
			}
			plans(t, g, 4, order, 1, places(0, 4, 3), places(1, 2))
		}
	}
	for _, call := range []list{reach.Breadth, reach.Depth, reach.Reach} {
		l, _ := call(g)
		want := slices.Clone(l)
		scratch(l)
		lists(t, "again", call, g, want...)
	}
	// Nor do lists change with the graph.
	small, large, _ := reach.Plan(g, 4, breadth, 1)
	g.Roots[0] = ref(4)
	clear(g.Nodes[0].Fields)
	clear(g.Nodes)
	if !slices.Equal(small, places(0, 4, 3)) || !slices.Equal(large, places(1, 2)) {
		t.Errorf("the lists have changed: %v %v", small, large)
	}
}

// chain is a graph of n nodes, each of which leads to the next one, and back to the first.
func chain(n int) api.Graph {
	g := gr(nil, 0)
	for i := range n - 1 {
		g.Nodes = append(g.Nodes, node(0, 0, i+1))
	}
	g.Nodes = append(g.Nodes, node(0))
	return g
}

func count(n int) []int {
	var l []int
	for i := range n {
		l = append(l, i)
	}
	return l
}

// A call that goes into itself for each node would overflow its stack, of which it has little here; one that searches all nodes for the next one would not end in time.
func TestLongChains(t *testing.T) {
	defer debug.SetMaxStack(debug.SetMaxStack(1 << 20))
	const n = 300000
	g := chain(n)
	all := count(n)
	breadths(t, g, all...)
	depths(t, g, all...)
	reaches(t, g, all...)
	for _, block := range places(1, 3, 4096, math.MaxInt) {
		plans(t, g, 3, tiers, block, all, nil)
	}
	for order := range 3 {
		plans(t, g, 2, order, 1, all[n-1:], all[:n-1])
	}
	lives(t, g, 3, 3*n-2, 0, 2*n-2)
	lives(t, g, 1, 1, 3*n-3, 2*n-2)
}

// Many that wait, in few blocks and in many.
func TestWideGraphs(t *testing.T) {
	const n, kids = 100, 3000
	var g api.Graph
	var deepest []int
	for i := range n {
		g.Roots = append(g.Roots, ref(int64(i*(kids+1))))
		l := count(kids)
		for k := range l {
			l[k] += i*(kids+1) + 1
		}
		g.Nodes = append(g.Nodes, node(0, l...))
		for range kids {
			g.Nodes = append(g.Nodes, node(0))
		}
		deepest = append(deepest, i*(kids+1))
	}
	depths(t, g, count(n*(kids+1))...)
	wide := slices.Clone(deepest)
	for i := range n {
		for k := range kids {
			wide = append(wide, i*(kids+1)+1+k)
		}
	}
	breadths(t, g, wide...)
	plans(t, g, math.MaxInt, tiers, math.MaxInt, wide, nil)
	// The last root is looked at first, and behind what it leads to the first one, and so on.
	near := slices.Clone(deepest)
	for _, i := range append([]int{n - 1}, count(n-1)...) {
		for k := range kids {
			near = append(near, i*(kids+1)+1+k)
		}
	}
	plansAll(t, g, math.MaxInt, tiers, near, nil, 1, 2, 3001)
	// Again and again to one node.
	g = api.Graph{Nodes: nodes(node(0)), Roots: slices.Repeat(refs(0), 300000)}
	breadths(t, g, 0)
	depths(t, g, 0)
	plans(t, g, 1, tiers, 1, places(0), nil)
	lives(t, g, 1, 1, 0, 0)
}
