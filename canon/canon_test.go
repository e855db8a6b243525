package canon_test

import (
	"math"
	"runtime/debug"
	"slices"
	"testing"

	"triforium/api"
	"triforium/canon"
)

// The chapters' numbers, in digits: a limit that is changed in api would be told here.
const (
	maxFields = 4096
	maxRaws   = 4096
	maxImm    = 2305843009213693951
	minImm    = -2305843009213693952
)

func val(kind int, x int64) api.Val { return api.Val{Kind: kind, X: x} }

func imm(x int64) api.Val { return val(1, x) }

func ref(x int64) api.Val { return val(2, x) }

func vals(l ...api.Val) []api.Val { return l }

// refs are references to all places of l.
func refs(l ...int) []api.Val {
	var all []api.Val
	for _, x := range l {
		all = append(all, ref(int64(x)))
	}
	return all
}

func node(kind int, fields []api.Val, raws ...uint64) api.Node {
	return api.Node{Kind: kind, Fields: fields, Raws: raws}
}

func nodes(l ...api.Node) []api.Node { return l }

func gr(l []api.Node, roots ...api.Val) api.Graph { return api.Graph{Nodes: l, Roots: roots} }

func places(l ...int) []int { return l }

// lines are nodes that lead to nothing but to the places of each list, and are told apart by nothing else.
func lines(l ...[]int) []api.Node {
	var all []api.Node
	for _, to := range l {
		all = append(all, node(0, refs(to...)))
	}
	return all
}

// full is a graph of eight nodes, of which 2, 5 and 6 are not met.
func full() api.Graph {
	return gr(nodes(
		node(31, vals(ref(1), imm(-1), ref(3)), 5),
		node(0, vals(ref(0), api.Val{}, ref(1), ref(7)), 7, math.MaxUint64, 0),
		node(5, vals(ref(0), imm(4)), 1),
		node(6, vals(imm(maxImm), imm(minImm), ref(4)), 2),
		node(7, nil, 1, 2, 3, 4),
		node(8, vals(api.Val{}, ref(6), ref(6)), 6),
		node(5, vals(ref(5)), 9),
		node(7, vals(ref(4))),
	), ref(3), imm(3), api.Val{}, ref(0), ref(3))
}

// deep is g with lists of its own, made here.
func deep(g api.Graph) api.Graph {
	c := api.Graph{Roots: slices.Clone(g.Roots)}
	for _, n := range g.Nodes {
		c.Nodes = append(c.Nodes, node(n.Kind, slices.Clone(n.Fields), slices.Clone(n.Raws)...))
	}
	return c
}

// equal tells whether a and b are the same in all, lists of no length held for the same.
func equal(a, b api.Graph) bool {
	same := func(n, m api.Node) bool {
		return n.Kind == m.Kind && slices.Equal(n.Fields, m.Fields) && slices.Equal(n.Raws, m.Raws)
	}
	return slices.EqualFunc(a.Nodes, b.Nodes, same) && slices.Equal(a.Roots, b.Roots)
}

// short tells what is to be seen of g: all of it, if it is small.
func short(g api.Graph) any {
	words := len(g.Roots)
	for _, n := range g.Nodes {
		words += 1 + len(n.Fields) + len(n.Raws)
	}
	if words > 100 {
		return words
	}
	return g
}

// shortList tells what is to be seen of l.
func shortList(l []int) []int {
	return l[:min(len(l), 30)]
}

// scratch writes over all lists of g, and behind their ends.
func scratch(g api.Graph) {
	for _, n := range g.Nodes[:cap(g.Nodes)] {
		scratchVals(n.Fields)
		raws := n.Raws[:cap(n.Raws)]
		for i := range raws {
			raws[i] = 3*raws[i] + 1
		}
	}
	l := g.Nodes[:cap(g.Nodes)]
	for i := range l {
		l[i] = node(-9, vals(ref(-9)), 9)
	}
	scratchVals(g.Roots)
}

func scratchVals(l []api.Val) {
	l = l[:cap(l)]
	for i := range l {
		l[i] = val(-9, -9)
	}
}

// slowMet tells which nodes of g are met, by going over all of them until nothing more is found.
func slowMet(g api.Graph) []bool {
	met := make([]bool, len(g.Nodes))
	found := true
	meet := func(l []api.Val) {
		for _, v := range l {
			if v.Kind == 2 && !met[v.X] {
				met[v.X] = true
				found = true
			}
		}
	}
	meet(g.Roots)
	for found {
		found = false
		for i, n := range g.Nodes {
			if met[i] {
				meet(n.Fields)
			}
		}
	}
	return met
}

// slowOrder are the places of all that is met, breadth first.
func slowOrder(g api.Graph) []int {
	var order []int
	meet := func(l []api.Val) {
		for _, v := range l {
			if v.Kind == 2 && !slices.Contains(order, int(v.X)) {
				order = append(order, int(v.X))
			}
		}
	}
	meet(g.Roots)
	for at := 0; at < len(order); at++ {
		meet(g.Nodes[order[at]].Fields)
	}
	return order
}

// slowCanon looks for each place in the order from its beginning.
func slowCanon(g api.Graph) api.Graph {
	order := slowOrder(g)
	turn := func(l []api.Val) []api.Val {
		l = slices.Clone(l)
		for i, v := range l {
			if v.Kind == 2 {
				l[i].X = int64(slices.Index(order, int(v.X)))
			}
		}
		return l
	}
	c := api.Graph{Roots: turn(g.Roots)}
	for _, i := range order {
		n := g.Nodes[i]
		c.Nodes = append(c.Nodes, node(n.Kind, turn(n.Fields), slices.Clone(n.Raws)...))
	}
	return c
}

// pairing pairs nodes as the chapter says it: every way to do so is tried.
type pairing struct {
	a, b       api.Graph
	metA, metB []bool
	to         []int
	found      [][]int
}

// slowMatches are all ways to pair what is met of a with what is met of b.
func slowMatches(a, b api.Graph) [][]int {
	p := &pairing{a: a, b: b, metA: slowMet(a), metB: slowMet(b)}
	p.pair(0)
	return p.found
}

// pair goes on with the node i of a.
func (p *pairing) pair(i int) {
	if i == len(p.a.Nodes) {
		if p.holds() {
			p.found = append(p.found, slices.Clone(p.to))
		}
		return
	}
	if !p.metA[i] {
		p.with(i, -1)
		return
	}
	for k, m := range p.b.Nodes {
		if p.metB[k] && !slices.Contains(p.to, k) && len(m.Fields) == len(p.a.Nodes[i].Fields) {
			p.with(i, k)
		}
	}
}

// with goes on behind the node i, which has the partner k.
func (p *pairing) with(i, k int) {
	p.to = append(p.to, k)
	p.pair(i + 1)
	p.to = p.to[:i]
}

// holds tells whether all are paired, and agree.
func (p *pairing) holds() bool {
	for k, met := range p.metB {
		if met && !slices.Contains(p.to, k) {
			return false
		}
	}
	for i, k := range p.to {
		if k < 0 {
			continue
		}
		n, m := p.a.Nodes[i], p.b.Nodes[k]
		if n.Kind != m.Kind || !slices.Equal(n.Raws, m.Raws) || !p.sameVals(n.Fields, m.Fields) {
			return false
		}
	}
	return p.sameVals(p.a.Roots, p.b.Roots)
}

func (p *pairing) sameVals(l, m []api.Val) bool {
	return slices.EqualFunc(l, m, func(v, w api.Val) bool {
		if v.Kind == 2 && w.Kind == 2 {
			return p.to[v.X] == int(w.X)
		}
		return v == w
	})
}

func canons(t *testing.T, g, want api.Graph) {
	t.Helper()
	was := deep(g)
	got, err := canon.Canon(g)
	if err != api.OK || !equal(got, want) {
		t.Errorf("Canon(%v): %v %d, want %v", short(g), short(got), err, short(want))
	}
	if !equal(g, was) {
		t.Errorf("the graph has changed: %v, want %v", short(g), short(was))
	}
}

// matches holds what is told of two graphs that are alike, to and fro, against the partners of a's nodes.
func matches(t *testing.T, a, b api.Graph, want ...int) {
	t.Helper()
	back := slices.Repeat([]int{-1}, len(b.Nodes))
	for i, k := range want {
		if k >= 0 {
			back[k] = i
		}
	}
	matchesTo(t, a, b, want)
	matchesTo(t, b, a, back)
}

func matchesTo(t *testing.T, a, b api.Graph, want []int) {
	t.Helper()
	wasA, wasB := deep(a), deep(b)
	if !canon.Alike(a, b) {
		t.Errorf("Alike(%v, %v): false", short(a), short(b))
	}
	if l, ok := canon.Match(a, b); !ok || !slices.Equal(l, want) {
		t.Errorf("Match(%v, %v): %v %v, want %v", short(a), short(b), shortList(l), ok, shortList(want))
	}
	if !equal(a, wasA) || !equal(b, wasB) {
		t.Errorf("the graphs have changed: %v %v, want %v %v", short(a), short(b), short(wasA), short(wasB))
	}
}

// differ holds what is told of two graphs that are not alike, to and fro.
func differ(t *testing.T, a, b api.Graph) {
	t.Helper()
	differsFrom(t, a, b)
	differsFrom(t, b, a)
}

func differsFrom(t *testing.T, a, b api.Graph) {
	t.Helper()
	if canon.Alike(a, b) {
		t.Errorf("Alike(%v, %v): true", short(a), short(b))
	}
	if l, ok := canon.Match(a, b); ok || len(l) != 0 {
		t.Errorf("Match(%v, %v): %v %v", short(a), short(b), shortList(l), ok)
	}
}

// agrees holds all that is told of a and b against what is found slowly, and tells whether they are alike.
func agrees(t *testing.T, a, b api.Graph) bool {
	t.Helper()
	canons(t, a, slowCanon(a))
	canons(t, b, slowCanon(b))
	one, _ := canon.Canon(a)
	other, _ := canon.Canon(b)
	all := slowMatches(a, b)
	if equal(one, other) != (len(all) == 1) || len(all) > 1 {
		t.Errorf("%v and %v have the canons %v and %v, and %v pairs them", short(a), short(b), short(one), short(other), all)
	}
	if len(all) == 1 {
		matches(t, a, b, all[0]...)
	} else {
		differ(t, a, b)
	}
	return len(all) == 1
}

// renumber tells g with its node i at the place to[i], made here.
func renumber(g api.Graph, to []int) api.Graph {
	turn := func(l []api.Val) []api.Val {
		l = slices.Clone(l)
		for i, v := range l {
			if v.Kind == 2 {
				l[i].X = int64(to[v.X])
			}
		}
		return l
	}
	c := api.Graph{Nodes: make([]api.Node, len(g.Nodes)), Roots: turn(g.Roots)}
	for i, n := range g.Nodes {
		c.Nodes[to[i]] = node(n.Kind, turn(n.Fields), slices.Clone(n.Raws)...)
	}
	return c
}

// The chapter's example: the same ring of three, numbered 0 1 2, and 2 0 1.
func TestRingOfThree(t *testing.T) {
	for root := range 3 {
		a := gr(lines(places(1), places(2), places(0)), ref(int64(root)))
		b := gr(lines(places(1), places(2), places(0)), ref(int64(places(2, 0, 1)[root])))
		matches(t, a, b, 2, 0, 1)
		canons(t, a, gr(lines(places(1), places(2), places(0)), ref(0)))
		canons(t, b, gr(lines(places(1), places(2), places(0)), ref(0)))
	}
	// Which way round the ring is numbered is not to be seen either.
	matches(t, gr(lines(places(1), places(2), places(0)), ref(0)), gr(lines(places(2), places(0), places(1)), ref(0)), 0, 2, 1)
	// But at which of its nodes the root is, if one of them is not as the others are.
	a := gr(nodes(node(1, refs(1)), node(0, refs(2)), node(0, refs(0))), ref(0))
	b := deep(a)
	b.Roots = refs(1)
	differ(t, a, b)
	matches(t, b, gr(nodes(node(0, refs(2)), node(1, refs(0)), node(0, refs(1))), ref(0)), 1, 0, 2)
}

// 3 is met ahead of 5 and 1, and 4, to which 3 leads, behind them: depth first it would stand ahead.
func TestCanonStandsBreadthFirst(t *testing.T) {
	g := gr(nodes(
		node(10, refs(2, 1)),
		node(11, nil),
		node(12, refs(3, 5)),
		node(13, refs(4), 3),
		node(14, refs(0, 6)),
		node(15, refs(2, 1)),
		node(16, nil),
	), ref(2), ref(0))
	canons(t, g, gr(nodes(
		node(12, refs(2, 3)),
		node(10, refs(0, 4)),
		node(13, refs(5), 3),
		node(15, refs(0, 4)),
		node(11, nil),
		node(14, refs(1, 6)),
		node(16, nil),
	), ref(0), ref(1)))
	// A node of many words stands where it is met, too.
	canons(t, gr(nodes(
		node(0, refs(2, 1)),
		node(1, refs(0)),
		node(2, refs(3), make([]uint64, maxRaws)...),
		node(3, refs(2)),
	), ref(0)), gr(nodes(
		node(0, refs(1, 2)),
		node(2, refs(3), make([]uint64, maxRaws)...),
		node(1, refs(0)),
		node(3, refs(1)),
	), ref(0)))
}

func TestCanonLeavesOutWhatIsNotMet(t *testing.T) {
	canons(t, full(), gr(nodes(
		node(6, vals(imm(maxImm), imm(minImm), ref(2)), 2),
		node(31, vals(ref(3), imm(-1), ref(0)), 5),
		node(7, nil, 1, 2, 3, 4),
		node(0, vals(ref(1), api.Val{}, ref(3), ref(4)), 7, math.MaxUint64, 0),
		node(7, vals(ref(2))),
	), ref(0), imm(3), api.Val{}, ref(1), ref(0)))
	// Nothing is met of what no root leads to, whatever leads to it.
	g := full()
	g.Roots = vals(imm(0), api.Val{}, imm(7))
	canons(t, g, gr(nil, imm(0), api.Val{}, imm(7)))
	g.Roots = nil
	canons(t, g, api.Graph{})
	g.Roots = refs(4)
	canons(t, g, gr(nodes(node(7, nil, 1, 2, 3, 4)), ref(0)))
	g.Roots = refs(6)
	canons(t, g, gr(nodes(node(5, refs(1), 9), node(8, vals(api.Val{}, ref(0), ref(0)), 6)), ref(0)))
}

func TestCanonOfNothing(t *testing.T) {
	for _, g := range []api.Graph{{}, {Nodes: nodes(), Roots: vals()}, gr(lines(places(0)))} {
		canons(t, g, api.Graph{})
		matches(t, g, api.Graph{}, slices.Repeat(places(-1), len(g.Nodes))...)
		differ(t, g, gr(nodes(node(0, nil)), ref(0)))
		differ(t, g, gr(nil, api.Val{}))
	}
}

// What stands in the order in which it is met stays as it is.
func TestCanonOfACanon(t *testing.T) {
	next := numbers()
	for range 500 {
		g := anyGraph(next, 1+next(20), 3)
		c, _ := canon.Canon(g)
		canons(t, c, c)
		kept := deep(c)
		matches(t, c, kept, count(len(c.Nodes))...)
		c, _ = canon.Canon(renumber(g, shuffled(next, len(g.Nodes))))
		if !equal(c, kept) {
			t.Errorf("the canon of %v hangs on its nodes' order: %v and %v", short(g), short(kept), short(c))
		}
	}
}

// spoils are ways to make full one that may not be; some spoil what is not met.
func spoils() []func(g *api.Graph) {
	return []func(g *api.Graph){
		func(g *api.Graph) { g.Nodes[0].Kind = -1 },
		func(g *api.Graph) { g.Nodes[3].Kind = 32 },
		func(g *api.Graph) { g.Nodes[5].Kind = 32 },
		func(g *api.Graph) { g.Nodes[0].Fields = make([]api.Val, maxFields+1) },
		func(g *api.Graph) { g.Nodes[2].Fields = make([]api.Val, maxFields+1) },
		func(g *api.Graph) { g.Nodes[3].Raws = make([]uint64, maxRaws+1) },
		func(g *api.Graph) { g.Nodes[6].Raws = make([]uint64, maxRaws+1) },
		func(g *api.Graph) { g.Nodes[0].Fields[0] = ref(8) },
		func(g *api.Graph) { g.Nodes[5].Fields[2] = ref(-1) },
		func(g *api.Graph) { g.Nodes[3].Fields[0] = imm(maxImm + 1) },
		func(g *api.Graph) { g.Nodes[2].Fields[1] = imm(minImm - 1) },
		func(g *api.Graph) { g.Nodes[1].Fields[1] = val(0, 1) },
		func(g *api.Graph) { g.Nodes[5].Fields[0] = val(3, 0) },
		func(g *api.Graph) { g.Roots[0] = ref(8) },
		func(g *api.Graph) { g.Roots[1] = imm(minImm - 1) },
		func(g *api.Graph) { g.Roots[2] = val(0, -1) },
		func(g *api.Graph) { g.Roots[3] = ref(math.MaxInt64) },
		func(g *api.Graph) { g.Roots[4] = ref(math.MinInt64) },
		func(g *api.Graph) { g.Roots = append(g.Roots, val(-1, 0)) },
		func(g *api.Graph) { g.Nodes = g.Nodes[:7] },
		func(g *api.Graph) { g.Nodes = nil },
	}
}

func TestGraphsThatMayNotBe(t *testing.T) {
	for i, spoil := range spoils() {
		g := full()
		spoil(&g)
		if c, err := canon.Canon(g); err != api.ErrForm || len(c.Nodes) != 0 || len(c.Roots) != 0 {
			t.Errorf("spoilt by %d: %v %d", i, short(c), err)
		}
		differ(t, g, full())
		differ(t, g, api.Graph{})
		differ(t, g, gr(nodes(node(0, nil)), ref(0)))
		// It is not alike to itself, nor to another one that may not be.
		differ(t, g, g)
		for _, other := range spoils() {
			h := full()
			other(&h)
			differ(t, g, h)
		}
	}
}

// changes are ways to make another node of one that has two fields and two raw words, or more; it still may be, where there are two nodes.
func changes() []func(n *api.Node) {
	return []func(n *api.Node){
		func(n *api.Node) { n.Kind = 31 - n.Kind },
		func(n *api.Node) { n.Kind ^= 1 },
		func(n *api.Node) { n.Fields = append(n.Fields, api.Val{}) },
		func(n *api.Node) { n.Fields = append(n.Fields, ref(1)) },
		func(n *api.Node) { n.Fields = append(vals(api.Val{}), n.Fields...) },
		func(n *api.Node) { n.Fields = n.Fields[:len(n.Fields)-1] },
		func(n *api.Node) { n.Fields = n.Fields[1:] },
		func(n *api.Node) { n.Fields = nil },
		func(n *api.Node) { n.Fields[0] = api.Val{} },
		func(n *api.Node) { n.Fields[0] = imm(n.Fields[0].X) },
		func(n *api.Node) { n.Fields[0] = imm(maxImm) },
		func(n *api.Node) { n.Fields[1] = imm(n.Fields[1].X + 1) },
		func(n *api.Node) { n.Fields[1] = imm(-n.Fields[1].X) },
		func(n *api.Node) { n.Fields[1] = api.Val{} },
		func(n *api.Node) { n.Fields[1] = ref(1) },
		func(n *api.Node) { n.Fields[0], n.Fields[1] = n.Fields[1], n.Fields[0] },
		func(n *api.Node) { n.Raws = append(n.Raws, 0) },
		func(n *api.Node) { n.Raws = append([]uint64{0}, n.Raws...) },
		func(n *api.Node) { n.Raws = n.Raws[:len(n.Raws)-1] },
		func(n *api.Node) { n.Raws = n.Raws[1:] },
		func(n *api.Node) { n.Raws = nil },
		func(n *api.Node) { n.Raws[0] ^= 1 },
		func(n *api.Node) { n.Raws[len(n.Raws)-1] ^= 1 << 63 },
		func(n *api.Node) { n.Raws[0], n.Raws[1] = n.Raws[1], n.Raws[0] },
		// As many words, but not of the same kind.
		func(n *api.Node) { n.Fields, n.Raws = append(n.Fields, api.Val{}), n.Raws[1:] },
		func(n *api.Node) { n.Fields, n.Raws = n.Fields[:len(n.Fields)-1], append(n.Raws, 0) },
	}
}

// A chain of six nodes, 2 and 4 of which are not met: what is changed there is not to be seen.
func TestAlikeAsksAllThatIsMetAlone(t *testing.T) {
	chain := func() api.Graph {
		g := gr(nil, imm(1), ref(5))
		for i := range 6 {
			next := places(0, 0, 3, 1, 5, 3)[i]
			g.Nodes = append(g.Nodes, node(7, vals(ref(int64(next)), imm(3)), 8, 9, 0))
		}
		return g
	}
	kept := chain()
	if !slices.Equal(slowMet(kept), []bool{true, true, false, true, false, true}) {
		t.Fatal("another chain is met")
	}
	matches(t, kept, chain(), 0, 1, -1, 3, -1, 5)
	for which, change := range changes() {
		for at := range 6 {
			g := chain()
			change(&g.Nodes[at])
			if at == 2 || at == 4 {
				matches(t, kept, g, 0, 1, -1, 3, -1, 5)
				matches(t, g, chain(), 0, 1, -1, 3, -1, 5)
			} else {
				differ(t, kept, g)
				matches(t, g, deep(g), metPlaces(g)...)
			}
		}
		if t.Failed() {
			t.Fatalf("the change %d", which)
		}
	}
}

// metPlaces pairs what is met of g with itself.
func metPlaces(g api.Graph) []int {
	l := count(len(g.Nodes))
	for i, met := range slowMet(g) {
		if !met {
			l[i] = -1
		}
	}
	return l
}

func TestAlikeAsksTheRoots(t *testing.T) {
	// 0 and 1 can't be told apart, but for the roots; 2 and 3 can.
	l := nodes(node(0, nil), node(0, nil), node(0, refs(3)), node(1, refs(2)))
	sames := [][2][]api.Val{
		{refs(0), refs(1)},
		{refs(0, 1), refs(1, 0)},
		{refs(0, 0), refs(1, 1)},
		{vals(imm(4), ref(1), api.Val{}), vals(imm(4), ref(0), api.Val{})},
		{nil, vals()},
	}
	for _, same := range sames {
		if !agrees(t, gr(l, same[0]...), gr(l, same[1]...)) {
			t.Errorf("the roots %v and %v", same[0], same[1])
		}
	}
	others := [][2][]api.Val{
		{refs(2), refs(3)},
		{refs(2, 3), refs(3, 2)},
		{refs(2, 0), refs(0, 2)},
		{refs(0), refs(0, 0)},
		{refs(0, 1), refs(0, 0)},
		{refs(0, 1, 0), refs(0, 1, 1)},
		{refs(2), refs(2, 3)},
		{refs(2), append(refs(2), api.Val{})},
		{refs(2), append(vals(api.Val{}), refs(2)...)},
		{refs(2), append(refs(2), imm(0))},
		{vals(api.Val{}, ref(2)), vals(ref(2), api.Val{})},
		{vals(imm(1)), vals(imm(2))},
		{vals(imm(1)), vals(imm(-1))},
		{vals(imm(0)), vals(api.Val{})},
		{vals(imm(0)), refs(0)},
		{vals(imm(1)), refs(1)},
		{vals(api.Val{}), refs(0)},
		{vals(api.Val{}), nil},
		{vals(imm(maxImm)), vals(imm(minImm))},
		{vals(imm(1), imm(2)), vals(imm(2), imm(1))},
		{refs(0), nil},
	}
	for _, other := range others {
		if agrees(t, gr(l, other[0]...), gr(l, other[1]...)) {
			t.Errorf("the roots %v and %v", other[0], other[1])
		}
	}
}

// What looks the same along all ways need not be alike: a partner is one node.
func TestAlikeTellsWhatIsShared(t *testing.T) {
	one := gr(lines(places(1, 1), nil), ref(0))
	two := gr(lines(places(1, 2), nil, nil), ref(0))
	differ(t, one, two)
	matches(t, two, gr(lines(places(2, 1), nil, nil), ref(0)), 0, 2, 1)
	// A node that leads to itself, and rings of two and of four.
	rings := []api.Graph{
		gr(lines(places(0)), ref(0)),
		gr(lines(places(1), places(0)), ref(0)),
		gr(lines(places(1), places(2), places(3), places(0)), ref(0)),
		gr(lines(places(1), places(1)), ref(0)),
		gr(lines(places(1), places(2), places(1)), ref(0)),
	}
	for i, a := range rings {
		for k, b := range rings {
			if agrees(t, a, b) != (i == k) {
				t.Errorf("the rings %d and %d", i, k)
			}
		}
	}
	// Two that the fields share crosswise, and straight on.
	cross := gr(lines(places(1, 2), places(3, 4), places(4, 3), nil, nil), ref(0))
	straight := gr(lines(places(1, 2), places(3, 4), places(3, 4), nil, nil), ref(0))
	differ(t, cross, straight)
	matches(t, cross, gr(lines(places(1, 2), places(4, 3), places(3, 4), nil, nil), ref(0)), 0, 1, 2, 4, 3)
	matches(t, straight, gr(lines(places(1, 2), places(4, 3), places(4, 3), nil, nil), ref(0)), 0, 1, 2, 4, 3)
	// Back to the first one, or to one like it.
	differ(t, gr(lines(places(1, 0), places(0, 0)), ref(0)), gr(lines(places(1, 0), places(0, 1)), ref(0)))
}

// A graph of more nodes than the other one has, of which as many are met.
func TestMatchOfWhatIsNotMet(t *testing.T) {
	a := gr(nodes(node(9, nil), node(1, refs(3)), node(9, refs(1)), node(2, refs(1)), node(9, refs(4))), ref(3))
	b := gr(nodes(node(1, refs(1)), node(2, refs(0))), ref(1))
	matches(t, a, b, -1, 0, -1, 1, -1)
	matches(t, b, b, 0, 1)
	matches(t, a, a, -1, 1, -1, 3, -1)
	matches(t, full(), full(), 0, 1, -1, 3, 4, -1, -1, 7)
	to := places(6, 0, 7, 5, 2, 1, 3, 4)
	matches(t, full(), renumber(full(), to), 6, 0, -1, 5, 2, -1, -1, 4)
	c, _ := canon.Canon(full())
	matches(t, full(), c, 1, 3, -1, 0, 2, -1, -1, 4)
	matches(t, c, renumber(full(), to), 5, 6, 2, 0, 4)
	// None is met.
	a.Roots, b.Roots = vals(imm(2)), vals(imm(2))
	matches(t, a, b, -1, -1, -1, -1, -1)
}

// Nodes as great as they may be, and as many roots as there may be fields, and more.
func TestGreatNodes(t *testing.T) {
	great := func() api.Graph {
		n := node(31, make([]api.Val, maxFields), make([]uint64, maxRaws)...)
		n.Fields[maxFields-1] = ref(2)
		n.Raws[maxRaws-1] = 7
		roots := make([]api.Val, 3*maxFields)
		roots[3*maxFields-1] = ref(1)
		return gr(nodes(node(1, nil), n, node(2, refs(0))), roots...)
	}
	a, b := great(), great()
	matches(t, a, b, 0, 1, 2)
	matches(t, a, renumber(b, places(1, 2, 0)), 1, 2, 0)
	for _, change := range []func(g *api.Graph){
		func(g *api.Graph) { g.Nodes[1].Raws[maxRaws-1] = 8 },
		func(g *api.Graph) { g.Nodes[1].Raws = g.Nodes[1].Raws[1:] },
		func(g *api.Graph) { g.Nodes[1].Fields[maxFields-1] = ref(0) },
		func(g *api.Graph) { g.Nodes[1].Fields[maxFields-2] = imm(0) },
		func(g *api.Graph) { g.Nodes[1].Fields = g.Nodes[1].Fields[1:] },
		func(g *api.Graph) { g.Roots[3*maxFields-1] = ref(2) },
		func(g *api.Graph) { g.Roots[3*maxFields-2] = ref(1) },
		func(g *api.Graph) { g.Roots = g.Roots[1:] },
	} {
		b = great()
		change(&b)
		differ(t, a, b)
	}
}

// A list of no length is the same, whether it is none or empty.
func TestEmptyLists(t *testing.T) {
	a := gr(nodes(api.Node{Kind: 4}), ref(0))
	b := gr(nodes(api.Node{Kind: 4, Fields: vals(), Raws: []uint64{}}), ref(0))
	matches(t, a, b, 0)
	canons(t, b, a)
}

// numbers tells a row of numbers, always the same one.
func numbers() func(n int) int {
	x := uint64(18)
	return func(n int) int {
		x = x*6364136223846793005 + 1442695040888963407
		return int(x >> 33 % uint64(n))
	}
}

// anyGraph has n nodes that are hard to tell apart, and up to so many roots and fields of each.
func anyGraph(next func(n int) int, n, most int) api.Graph {
	some := func() []api.Val {
		var l []api.Val
		for range 1 + next(most) {
			x := next(n + 1)
			if x == n {
				l = append(l, vals(api.Val{}, imm(0), imm(1))[next(3)])
			} else {
				l = append(l, ref(int64(x)))
			}
		}
		return l
	}
	g := api.Graph{Roots: some()}
	for range n {
		g.Nodes = append(g.Nodes, node(next(2), some(), slices.Repeat([]uint64{1}, next(2))...))
	}
	return g
}

// shuffled are the places of n nodes in any order.
func shuffled(next func(n int) int, n int) []int {
	l := count(n)
	for i := range l {
		k := i + next(n-i)
		l[i], l[k] = l[k], l[i]
	}
	return l
}

func count(n int) []int {
	var l []int
	for i := range n {
		l = append(l, i)
	}
	return l
}

// small tells the graph of so many nodes, fields of each, and roots, whose values are the digits of code.
func small(code, n, fields, roots int) api.Graph {
	digit := func() api.Val {
		x := code % (n + 1)
		code /= n + 1
		if x == n {
			return api.Val{}
		}
		return ref(int64(x))
	}
	g := api.Graph{}
	for range roots {
		g.Roots = append(g.Roots, digit())
	}
	for range n {
		o := api.Node{}
		for range fields {
			o.Fields = append(o.Fields, digit())
		}
		g.Nodes = append(g.Nodes, o)
	}
	return g
}

// All pairs of graphs of two nodes with two fields each, and of three nodes with one each.
func TestAllPairsOfSmallGraphs(t *testing.T) {
	for _, kind := range [][3]int{{2, 2, 1}, {3, 1, 1}} {
		all := 1
		for range kind[0]*kind[1] + kind[2] {
			all *= kind[0] + 1
		}
		for one := range all {
			for other := range all {
				agrees(t, small(one, kind[0], kind[1], kind[2]), small(other, kind[0], kind[1], kind[2]))
			}
			if t.Failed() {
				return
			}
		}
	}
}

// Graphs and themselves, numbered anew, and with one thing changed, or none.
func TestManyGraphs(t *testing.T) {
	next := numbers()
	alike := 0
	const rounds = 20000
	for range rounds {
		n := 1 + next(6)
		a := anyGraph(next, n, 2)
		b := renumber(a, shuffled(next, n))
		at := next(n)
		l := b.Nodes[at].Fields
		switch next(6) {
		case 0:
			l[next(len(l))] = ref(int64(next(n)))
		case 1:
			b.Roots[next(len(b.Roots))] = ref(int64(next(n)))
		case 2:
			b.Nodes[at].Kind = next(2)
		case 3:
			b.Nodes[at].Raws = slices.Repeat([]uint64{1}, next(2))
		case 4:
			b.Nodes = append(b.Nodes, node(1, refs(at)))
		}
		if agrees(t, a, b) {
			alike++
		}
		if t.Failed() {
			return
		}
	}
	if alike < rounds/4 || alike > rounds*3/4 {
		t.Errorf("%d of %d are alike", alike, rounds)
	}
}

// What is told hangs on nothing but what is handed in.
func TestTheSameAgain(t *testing.T) {
	next := numbers()
	a := anyGraph(next, 300, 3)
	to := shuffled(next, 300)
	b := renumber(a, to)
	for i, met := range slowMet(a) {
		if !met {
			to[i] = -1
		}
	}
	want := slowCanon(a)
	if len(want.Nodes) < 200 || len(want.Nodes) == 300 {
		t.Fatalf("%d are met", len(want.Nodes))
	}
	for range 20 {
		canons(t, a, want)
		canons(t, b, want)
		matches(t, a, b, to...)
	}
}

func TestAnswersAreNew(t *testing.T) {
	g := full()
	want := slowCanon(g)
	// In order already, so that nothing would have to be moved.
	for _, g := range []api.Graph{g, deep(want), gr(nodes(node(1, nil, 5)), ref(0)), gr(nil, imm(3))} {
		want, was := slowCanon(g), deep(g)
		c, _ := canon.Canon(g)
		scratch(c)
		canons(t, g, want)
		if !equal(g, was) {
			t.Errorf("the graph changes with its canon: %v, want %v", short(g), short(was))
		}
	}
	c, _ := canon.Canon(g)
	scratch(g)
	if !equal(c, want) {
		t.Errorf("the canon changes with its graph: %v, want %v", short(c), short(want))
	}
	// No two lists of an answer are one, though those of the graph are.
	fields, raws := refs(1, 0), []uint64{4, 5}
	g = api.Graph{Nodes: nodes(node(0, fields, raws...), node(0, fields, raws...)), Roots: fields}
	g.Nodes[0].Raws, g.Nodes[1].Raws = raws, raws
	c, _ = canon.Canon(g)
	want = deep(c)
	scratchVals(c.Nodes[0].Fields)
	clear(c.Nodes[0].Raws)
	scratchVals(c.Roots)
	if c.Nodes[0] = want.Nodes[0]; !equal(api.Graph{Nodes: c.Nodes}, api.Graph{Nodes: want.Nodes}) {
		t.Errorf("the lists of one node change with those of another one: %v", c)
	}
	// Nor are those of two answers.
	g = full()
	first, _ := canon.Canon(g)
	canons(t, renumber(g, places(7, 6, 5, 4, 3, 2, 1, 0)), first)
	second, _ := canon.Canon(g)
	scratch(second)
	if !equal(first, slowCanon(g)) {
		t.Errorf("two canons are one: %v", short(first))
	}
}

func TestMatchIsNew(t *testing.T) {
	a := full()
	b := renumber(a, places(6, 0, 7, 5, 2, 1, 3, 4))
	want := places(6, 0, -1, 5, 2, -1, -1, 4)
	l, _ := canon.Match(a, b)
	scratch(a)
	scratch(b)
	if !slices.Equal(l, want) {
		t.Errorf("the list changes with the graphs: %v, want %v", l, want)
	}
	a = full()
	b = renumber(a, places(6, 0, 7, 5, 2, 1, 3, 4))
	l = l[:cap(l)]
	for i := range l {
		l[i] = -9
	}
	matches(t, a, b, want...)
	// Nor does a list change when the same, or another one of that length, is asked for.
	l, _ = canon.Match(a, b)
	back, _ := canon.Match(b, a)
	again, _ := canon.Match(a, b)
	clear(back)
	if !slices.Equal(l, want) || !slices.Equal(again, want) {
		t.Errorf("the list changes behind other calls: %v %v, want %v", l, again, want)
	}
	clear(again)
	if !slices.Equal(l, want) {
		t.Errorf("two lists are one: %v, want %v", l, want)
	}
}

// A call that goes into itself for each node would overflow its stack, of which it has little here.
func TestLongChains(t *testing.T) {
	defer debug.SetMaxStack(debug.SetMaxStack(1 << 20))
	const n = 200000
	a, b := gr(nil, ref(0)), gr(nil, ref(n-1))
	back := count(n)
	slices.Reverse(back)
	for i := range n {
		a.Nodes = append(a.Nodes, node(0, refs(min(i+1, n-1))))
		b.Nodes = append(b.Nodes, node(0, refs(max(i-1, 0))))
	}
	canons(t, a, a)
	canons(t, b, a)
	matches(t, a, b, back...)
	// Just the last one that is met is not the same.
	c := deep(b)
	c.Nodes[0].Fields[0].X = 1
	differ(t, a, c)
	b.Nodes[0].Raws = []uint64{0}
	differ(t, a, b)
}

func TestWideGraphs(t *testing.T) {
	const kids = maxFields
	a := gr(nodes(node(0, refs(count(kids)...))), ref(0))
	for i := range kids - 1 {
		a.Nodes = append(a.Nodes, node(0, refs((i*7)%kids)))
	}
	to := shuffled(numbers(), kids)
	matches(t, a, renumber(a, to), to...)
	b := renumber(a, to)
	b.Nodes[to[kids-1]].Kind = 1
	differ(t, a, b)
	// Again and again to one node.
	a = api.Graph{Nodes: nodes(node(0, nil), node(3, nil)), Roots: slices.Repeat(refs(1), 200000)}
	canons(t, a, api.Graph{Nodes: nodes(node(3, nil)), Roots: slices.Repeat(refs(0), 200000)})
	matches(t, a, renumber(a, places(1, 0)), -1, 0)
}
