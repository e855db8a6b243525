package graph_test

import (
	"math"
	"slices"
	"testing"

	"triforium/api"
	"triforium/graph"
)

// The chapters' numbers, in digits: a limit that is changed in api would be told here.
const (
	maxKind   = 31
	maxFields = 4096
	maxRaws   = 4096
	maxAt     = 1099511627776
	maxImm    = 2305843009213693951
	minImm    = -2305843009213693952
)

func val(kind int, x int64) api.Val { return api.Val{Kind: kind, X: x} }

func imm(x int64) api.Val { return val(1, x) }

func ref(x int64) api.Val { return val(2, x) }

func vals(l ...api.Val) []api.Val { return l }

func node(kind int, fields []api.Val, raws ...uint64) api.Node {
	return api.Node{Kind: kind, Fields: fields, Raws: raws}
}

func nodes(l ...api.Node) []api.Node { return l }

func gr(l []api.Node, roots ...api.Val) api.Graph { return api.Graph{Nodes: l, Roots: roots} }

// plain are n nodes that lead nowhere, each of a Kind of its own, as far as there are so many.
func plain(n int) []api.Node {
	var l []api.Node
	for i := range n {
		l = append(l, node(i%32, nil, uint64(i)))
	}
	return l
}

// full is a graph of six nodes: one is met by nothing, one leads to itself, two to one another, one to the same one twice.
func full() api.Graph {
	return gr(nodes(
		node(31, vals(ref(1), imm(-1), ref(2))),
		node(0, vals(ref(0), api.Val{}, ref(1), ref(1)), 7, math.MaxUint64, 0),
		node(5, nil),
		node(6, vals(imm(maxImm), imm(minImm), ref(5)), 2),
		node(7, nil, 1, 2, 3, 4),
		node(8, vals(api.Val{}, ref(4), ref(4)), 6),
	), ref(0), imm(3), api.Val{}, ref(5), ref(0))
}

// deep is g with lists of its own, made here.
func deep(g api.Graph) api.Graph {
	var c api.Graph
	for _, n := range g.Nodes {
		m := api.Node{Kind: n.Kind}
		m.Fields = append(m.Fields, n.Fields...)
		m.Raws = append(m.Raws, n.Raws...)
		c.Nodes = append(c.Nodes, m)
	}
	c.Roots = append(c.Roots, g.Roots...)
	return c
}

// equal tells whether a and b are the same in all, lists of no length held for the same.
func equal(a, b api.Graph) bool {
	if len(a.Nodes) != len(b.Nodes) || !slices.Equal(a.Roots, b.Roots) {
		return false
	}
	for i, n := range a.Nodes {
		m := b.Nodes[i]
		if n.Kind != m.Kind || !slices.Equal(n.Fields, m.Fields) || !slices.Equal(n.Raws, m.Raws) {
			return false
		}
	}
	return true
}

// scratch writes over all lists of g, and behind their ends.
func scratch(g api.Graph) {
	for _, n := range g.Nodes {
		scratchVals(n.Fields)
		scratchRaws(n.Raws)
	}
	l := g.Nodes[:cap(g.Nodes)]
	for i := range l {
		l[i] = node(-9, vals(ref(-9)), 9)
	}
	scratchVals(g.Roots)
}

func scratchVals(l []api.Val) {
	l = l[:cap(l)]
	for i := range l {
		l[i] = val(-9, -9)
	}
}

func scratchRaws(l []uint64) {
	l = l[:cap(l)]
	for i := range l {
		l[i] = 3*l[i] + 1
	}
}

// mayBe tells by the chapter of values whether v may be, and leads to one of n nodes, if it is a reference.
func mayBe(v api.Val, n int) bool {
	switch v.Kind {
	case 0:
		return v.X == 0
	case 1:
		return v.X >= minImm && v.X <= maxImm
	case 2:
		return v.X >= 0 && v.X <= maxAt && v.X <= int64(n)-1
	}
	return false
}

func slowRight(g api.Graph) bool {
	all := slices.Clone(g.Roots)
	for _, n := range g.Nodes {
		if n.Kind < 0 || n.Kind >= 32 || len(n.Fields) >= 4097 || len(n.Raws) >= 4097 {
			return false
		}
		all = append(all, n.Fields...)
	}
	for _, v := range all {
		if !mayBe(v, len(g.Nodes)) {
			return false
		}
	}
	return true
}

func slowLeads(g api.Graph, i int) []int {
	l := []int{}
	for at := range g.Nodes {
		for _, v := range g.Nodes[at].Fields {
			if at == i && v.Kind == 2 {
				l = append(l, int(v.X))
			}
		}
	}
	return l
}

// slowSums tell the words and the fields by going over all nodes for each place.
func slowSums(g api.Graph, l []int) (int, int) {
	words, fields := 0, 0
	for _, i := range l {
		for at, n := range g.Nodes {
			if at == i {
				words += len(n.Fields) + len(n.Raws) + 1
				fields += len(n.Fields)
			}
		}
	}
	return words, fields
}

// slowRenumber looks for each place in order from its beginning.
func slowRenumber(g api.Graph, order []int) (api.Graph, api.Errno) {
	if !slowRight(g) {
		return api.Graph{}, 4
	}
	for at, i := range order {
		if i < 0 || i >= len(g.Nodes) || slices.Contains(order[:at], i) {
			return api.Graph{}, 1
		}
	}
	var moved api.Graph
	wrong := false
	turn := func(l []api.Val) []api.Val {
		l = slices.Clone(l)
		for i, v := range l {
			if v.Kind == 2 {
				l[i].X = int64(slices.Index(order, int(v.X)))
				wrong = wrong || l[i].X < 0
			}
		}
		return l
	}
	for _, i := range order {
		n := g.Nodes[i]
		moved.Nodes = append(moved.Nodes, node(n.Kind, turn(n.Fields), n.Raws...))
	}
	moved.Roots = turn(g.Roots)
	if wrong {
		return api.Graph{}, 2
	}
	return moved, 0
}

func rights(t *testing.T, g api.Graph, want bool) {
	t.Helper()
	if got := graph.Right(g); got != want {
		t.Errorf("Right(%s): %v, want %v", short(g), got, want)
	}
}

func renumbers(t *testing.T, g api.Graph, order []int, want api.Graph, err api.Errno) api.Graph {
	t.Helper()
	got, e := graph.Renumber(g, order)
	if e != err || !equal(got, want) {
		t.Errorf("Renumber(%s, %v): %s %d, want %s %d", short(g), order, short(got), e, short(want), err)
	}
	return got
}

// agrees holds all that is told of g against what the slow ones tell, and g against how it was.
func agrees(t *testing.T, g api.Graph, orders ...[]int) {
	t.Helper()
	was := deep(g)
	rights(t, g, slowRight(g))
	for i := -1; i <= len(g.Nodes); i++ {
		if got, want := graph.Leads(g, i), slowLeads(g, i); !slices.Equal(got, want) {
			t.Errorf("Leads(%s, %d): %v, want %v", short(g), i, got, want)
		}
	}
	for _, order := range orders {
		kept := slices.Clone(order)
		words, fields := slowSums(g, order)
		if w, f := graph.Words(g, order), graph.Fields(g, order); w != words || f != fields {
			t.Errorf("of %s and %v %d words and %d fields, want %d and %d", short(g), order, w, f, words, fields)
		}
		want, err := slowRenumber(g, order)
		got := renumbers(t, g, order, want, err)
		if !slices.Equal(order, kept) {
			t.Errorf("the order %v has changed: %v", kept, order)
		}
		scratch(got)
	}
	if !equal(g, was) {
		t.Errorf("the graph has changed: %s, want %s", short(g), short(was))
	}
}

// short tells what is to be seen of g: all of it, if it is small.
func short(g api.Graph) any {
	words := 0
	for _, n := range g.Nodes {
		words += 1 + len(n.Fields) + len(n.Raws)
	}
	if words > 100 {
		return words
	}
	return g
}

// far are ints that are no place of any graph here.
var far = []int{
	-1, -2, -3, -1024, math.MinInt, math.MinInt + 1, math.MinInt / 2, -1 << 32, 1 << 20, 1 << 31, 1 << 32, 1<<32 + 1,
	maxAt - 1, maxAt, maxAt + 1, 1 << 62, math.MaxInt - 1, math.MaxInt,
}

// wrongVals are values that may not stand in a graph of two nodes.
func wrongVals() []api.Val {
	l := vals(
		val(0, 1), val(0, -1), val(0, 2), val(0, math.MaxInt64), val(0, math.MinInt64),
		imm(maxImm+1), imm(minImm-1), imm(math.MaxInt64), imm(math.MinInt64),
		ref(2), ref(3), val(-1, 0), val(3, 0), val(3, 1), val(4, 0), val(256, 0), val(1<<32, 0), val(1<<32+2, 0), val(math.MaxInt, 0), val(math.MinInt, 0),
	)
	for _, x := range far {
		l = append(l, ref(int64(x)))
	}
	return l
}

// rightVals are values that may stand in a graph of two nodes.
var rightVals = []api.Val{{}, imm(0), imm(1), imm(-1), imm(2), imm(maxImm), imm(minImm), imm(maxAt + 1), ref(0), ref(1)}

func TestRightOfGraphsThatMayBe(t *testing.T) {
	for _, g := range []api.Graph{
		{},
		{Nodes: []api.Node{}, Roots: []api.Val{}},
		gr(nil, api.Val{}, imm(5)),
		gr(plain(1)),
		gr(plain(40), ref(39)),
		gr(nodes(node(0, vals(ref(0)))), ref(0)),
		full(),
	} {
		rights(t, g, true)
	}
}

func TestRightAsksTheKind(t *testing.T) {
	for kind := -40; kind <= 80; kind++ {
		for at := range 3 {
			g := gr(plain(3), ref(2))
			g.Nodes[at].Kind = kind
			rights(t, g, kind >= 0 && kind <= maxKind)
		}
	}
	for _, kind := range far {
		rights(t, gr(nodes(node(kind, nil))), false)
	}
}

func TestRightAsksHowMany(t *testing.T) {
	for _, n := range []int{0, 1, maxFields - 1, maxFields, maxFields + 1, maxFields + 2, 2 * maxFields, 1 << 16, 1<<16 + 1, 1 << 17} {
		for at := range 3 {
			g := gr(plain(3), ref(2))
			g.Nodes[at].Fields = make([]api.Val, n)
			rights(t, g, n <= maxFields)
			g.Nodes[at].Fields = nil
			g.Nodes[at].Raws = make([]uint64, n)
			rights(t, g, n <= maxRaws)
		}
	}
	rights(t, gr(nodes(node(0, make([]api.Val, maxFields), make([]uint64, maxRaws)...))), true)
	rights(t, gr(nil, make([]api.Val, 3*maxFields)...), true)
}

// Raw words may be any.
func TestRightOfAnyRawWords(t *testing.T) {
	for _, w := range []uint64{0, 1, 2, 3, 4, 1 << 63, math.MaxUint64, 4*maxAt + 6} {
		rights(t, gr(nodes(node(0, nil, w, w))), true)
	}
}

// Each place at which a value can stand is asked.
func TestRightAsksEachValue(t *testing.T) {
	put := []func(g api.Graph, v api.Val){
		func(g api.Graph, v api.Val) { g.Nodes[0].Fields[0] = v },
		func(g api.Graph, v api.Val) { g.Nodes[0].Fields[1] = v },
		func(g api.Graph, v api.Val) { g.Nodes[0].Fields[2] = v },
		func(g api.Graph, v api.Val) { g.Nodes[1].Fields[0] = v },
		func(g api.Graph, v api.Val) { g.Nodes[1].Fields[1] = v },
		func(g api.Graph, v api.Val) { g.Roots[0] = v },
		func(g api.Graph, v api.Val) { g.Roots[1] = v },
		func(g api.Graph, v api.Val) { g.Roots[2] = v },
	}
	for i, do := range put {
		fresh := func() api.Graph {
			return gr(nodes(node(1, vals(ref(1), ref(0), imm(1)), 1), node(2, make([]api.Val, 2))), ref(1), api.Val{}, ref(0))
		}
		for _, v := range rightVals {
			g := fresh()
			do(g, v)
			rights(t, g, true)
		}
		for _, v := range wrongVals() {
			g := fresh()
			do(g, v)
			if graph.Right(g) {
				t.Errorf("the value %+v, put by %d: it may be", v, i)
			}
		}
	}
}

// A reference is asked of how many nodes there are, not of what they are.
func TestRightAsksWhereReferencesLead(t *testing.T) {
	for n := range 5 {
		for x := int64(-2); x <= 6; x++ {
			rights(t, gr(plain(n), ref(x)), x >= 0 && x < int64(n))
			if n > 0 {
				g := gr(plain(n))
				g.Nodes[n-1].Fields = vals(imm(x), ref(x))
				rights(t, g, x >= 0 && x < int64(n))
			}
		}
	}
}

func TestSize(t *testing.T) {
	for fields := range 6 {
		for raws := range 6 {
			for _, kind := range []int{0, 7, 31, 32, -1} {
				n := node(kind, make([]api.Val, fields), make([]uint64, raws)...)
				if got := graph.Size(n); got != 1+fields+raws {
					t.Errorf("Size of %d fields and %d raw words: %d", fields, raws, got)
				}
			}
		}
	}
	for _, many := range []int{4095, 4096, 4097, 65536, 200000} {
		n := node(0, make([]api.Val, many), make([]uint64, many+3)...)
		if got := graph.Size(n); got != 2*many+4 {
			t.Errorf("Size of %d fields and 3 raw words more: %d", many, got)
		}
	}
	if got := graph.Size(api.Node{}); got != 1 {
		t.Errorf("Size of nothing: %d", got)
	}
}

func leads(t *testing.T, g api.Graph, i int, want ...int) {
	t.Helper()
	if got := graph.Leads(g, i); !slices.Equal(got, want) {
		t.Errorf("Leads(%s, %d): %v, want %v", short(g), i, got, want)
	}
}

func TestLeads(t *testing.T) {
	leads(t, full(), 0, 1, 2)
	leads(t, full(), 1, 0, 1, 1)
	leads(t, full(), 2)
	leads(t, full(), 3, 5)
	leads(t, full(), 4)
	leads(t, full(), 5, 4, 4)
	leads(t, full(), 6)
	for _, i := range far {
		leads(t, full(), i)
		leads(t, api.Graph{}, i)
	}
	leads(t, api.Graph{}, 0)
	// Neither the roots, nor the raw words are fields.
	leads(t, gr(nodes(node(0, nil, 2, 6)), ref(0)), 0)
}

// The Kind alone says what a reference is: of graphs that may not be, too.
func TestLeadsOfGraphsThatMayNotBe(t *testing.T) {
	var fields []api.Val
	for _, x := range far {
		fields = append(fields, ref(int64(x)), imm(int64(x)), val(0, int64(x)), val(3, int64(x)), val(-2, int64(x)), val(6, 1), val(1<<32+2, 1))
	}
	leads(t, gr(nodes(node(-1, nil), node(99, fields))), 1, far...)
	leads(t, gr(nodes(node(0, slices.Repeat(vals(ref(9)), 5000)))), 0, slices.Repeat([]int{9}, 5000)...)
}

func TestLeadsTellsANewList(t *testing.T) {
	g := full()
	l := graph.Leads(g, 1)
	for i := range l {
		l[i] = -1
	}
	leads(t, g, 1, 0, 1, 1)
	if !equal(g, full()) {
		t.Error("the graph has changed")
	}
}

func sums(t *testing.T, g api.Graph, l []int, words, fields int) {
	t.Helper()
	kept := slices.Clone(l)
	if w, f := graph.Words(g, l), graph.Fields(g, l); w != words || f != fields {
		t.Errorf("of %d places %d words and %d fields, want %d and %d", len(l), w, f, words, fields)
	}
	if !slices.Equal(l, kept) {
		t.Error("the list has changed")
	}
}

func TestWordsAndFields(t *testing.T) {
	g := full()
	sums(t, g, nil, 0, 0)
	sums(t, g, []int{}, 0, 0)
	for i, want := range [][2]int{{4, 3}, {8, 4}, {1, 0}, {5, 3}, {5, 0}, {5, 3}} {
		sums(t, g, []int{i}, want[0], want[1])
		sums(t, g, []int{i, i, i}, 3*want[0], 3*want[1])
	}
	sums(t, g, []int{0, 1, 2, 3, 4, 5}, 28, 13)
	sums(t, g, []int{5, 3, 1, 0, 4, 2}, 28, 13)
	sums(t, g, []int{5, 0, 5, 2, 2}, 16, 9)
	sums(t, g, []int{6, -1, 7}, 0, 0)
	sums(t, g, far, 0, 0)
	sums(t, g, slices.Concat(far, []int{1}, far, []int{6, 3, 6}), 13, 7)
	sums(t, api.Graph{}, slices.Concat(far, []int{0, 1, 0}), 0, 0)
}

// Sums are asked of graphs that may not be, too, and are exact.
func TestGreatSums(t *testing.T) {
	many := make([]api.Val, 1<<20)
	g := gr(nodes(node(-1, many), node(32, nil, make([]uint64, 1<<20)...), node(0, vals(val(7, 7)), 1)), ref(-1))
	l := slices.Repeat([]int{0, 1}, 1<<19)
	sums(t, g, l, (1<<20)*(1<<20+1), 1<<39)
	sums(t, g, append(l, 2), (1<<20)*(1<<20+1)+3, 1<<39+1)
	sums(t, g, []int{2, 2}, 6, 2)
}

func TestRenumber(t *testing.T) {
	g := gr(nodes(
		node(3, vals(ref(1), imm(2), api.Val{}), 9, 8),
		node(4, vals(ref(2), ref(0)), 7),
		node(5, vals(ref(2), imm(0)), 1, 2),
	), ref(1), imm(1), ref(0), api.Val{}, ref(1))
	renumbers(t, g, []int{0, 1, 2}, g, api.OK)
	renumbers(t, g, []int{2, 0, 1}, gr(nodes(
		node(5, vals(ref(0), imm(0)), 1, 2),
		node(3, vals(ref(2), imm(2), api.Val{}), 9, 8),
		node(4, vals(ref(0), ref(1)), 7),
	), ref(2), imm(1), ref(1), api.Val{}, ref(2)), api.OK)
	renumbers(t, g, []int{1, 2, 0}, gr(nodes(
		node(4, vals(ref(1), ref(2)), 7),
		node(5, vals(ref(1), imm(0)), 1, 2),
		node(3, vals(ref(0), imm(2), api.Val{}), 9, 8),
	), ref(0), imm(1), ref(2), api.Val{}, ref(0)), api.OK)
}

// Nodes that nothing leads to may be left out, whatever they lead to.
func TestRenumberLeavesNodesOut(t *testing.T) {
	g := gr(nodes(
		node(1, vals(ref(3), ref(1))),
		node(2, vals(ref(3), ref(1)), 5),
		node(3, vals(ref(0), ref(2))),
		node(4, vals(imm(2)), 6),
	), ref(3))
	renumbers(t, g, []int{3}, gr(nodes(node(4, vals(imm(2)), 6)), ref(0)), api.OK)
	renumbers(t, g, []int{3, 1}, gr(nodes(node(4, vals(imm(2)), 6), node(2, vals(ref(0), ref(1)), 5)), ref(0)), api.OK)
	renumbers(t, g, []int{1, 3}, gr(nodes(node(2, vals(ref(1), ref(0)), 5), node(4, vals(imm(2)), 6)), ref(1)), api.OK)
	renumbers(t, g, nil, api.Graph{}, api.ErrPlace)
	renumbers(t, g, []int{1}, api.Graph{}, api.ErrPlace)
	renumbers(t, g, []int{0, 3}, api.Graph{}, api.ErrPlace)
	renumbers(t, g, []int{2, 3}, api.Graph{}, api.ErrPlace)
	renumbers(t, g, []int{0, 1, 2}, api.Graph{}, api.ErrPlace)
	g.Roots = vals(imm(3), api.Val{})
	renumbers(t, g, nil, gr(nil, imm(3), api.Val{}), api.OK)
	renumbers(t, g, []int{}, gr(nil, imm(3), api.Val{}), api.OK)
	renumbers(t, g, []int{0}, api.Graph{}, api.ErrPlace)
	renumbers(t, g, []int{1}, api.Graph{}, api.ErrPlace)
	renumbers(t, api.Graph{}, nil, api.Graph{}, api.OK)
	renumbers(t, api.Graph{}, []int{}, api.Graph{}, api.OK)
	renumbers(t, api.Graph{}, []int{0}, api.Graph{}, api.ErrArg)
}

// Each reference is asked, wherever it stands.
func TestRenumberAsksEachReference(t *testing.T) {
	for at := range 3 {
		for field := range 3 {
			g := gr(plain(4), api.Val{}, imm(3))
			for i := range 3 {
				g.Nodes[i].Fields = make([]api.Val, 3)
			}
			renumbers(t, g, []int{2, 1, 0}, gr(nodes(g.Nodes[2], g.Nodes[1], g.Nodes[0]), g.Roots...), api.OK)
			g.Nodes[at].Fields[field] = imm(3)
			renumbers(t, g, []int{2, 1, 0}, gr(nodes(g.Nodes[2], g.Nodes[1], g.Nodes[0]), g.Roots...), api.OK)
			g.Nodes[at].Fields[field] = ref(3)
			renumbers(t, g, []int{2, 1, 0}, api.Graph{}, api.ErrPlace)
		}
	}
	for at := range 3 {
		g := gr(plain(4), make([]api.Val, 3)...)
		g.Roots[at] = ref(3)
		renumbers(t, g, []int{2, 1, 0}, api.Graph{}, api.ErrPlace)
		want := gr(g.Nodes[3:], make([]api.Val, 3)...)
		want.Roots[at] = ref(0)
		renumbers(t, g, []int{3}, want, api.OK)
	}
}

func TestRenumberAsksTheOrder(t *testing.T) {
	g := gr(plain(3), ref(1))
	for at := range 4 {
		for _, i := range append([]int{3, 4}, far...) {
			renumbers(t, g, slices.Insert([]int{2, 1, 0}, at, i), api.Graph{}, api.ErrArg)
			renumbers(t, g, slices.Insert([]int{1}, min(at, 1), i), api.Graph{}, api.ErrArg)
		}
		for i := range 3 {
			renumbers(t, g, slices.Insert([]int{2, 1, 0}, at, i), api.Graph{}, api.ErrArg)
		}
	}
	renumbers(t, g, []int{1, 1}, api.Graph{}, api.ErrArg)
	renumbers(t, g, []int{0, 0}, api.Graph{}, api.ErrArg)
	renumbers(t, g, []int{2, 1, 2}, api.Graph{}, api.ErrArg)
	renumbers(t, g, slices.Repeat([]int{1}, 100000), api.Graph{}, api.ErrArg)
	renumbers(t, g, make([]int, 100000), api.Graph{}, api.ErrArg)
}

// The graph is asked first, then all of the order, then where references lead.
func TestRenumberAsksInOrder(t *testing.T) {
	bad := [][]int{{0, 0}, {-1}, {9}, {1, 0, 1}, {0, 1, 2, 3}, {0}, nil}
	for _, spoil := range spoils() {
		g := full()
		spoil(&g)
		for _, order := range append(bad, []int{0, 1, 2, 3, 4, 5}, []int{5, 4}) {
			renumbers(t, g, order, api.Graph{}, api.ErrForm)
		}
	}
	// Without the node 0 a root leads nowhere.
	for _, order := range [][]int{{1, 2, 3, 4, 5, 1}, {5, -1}, {4, 3, 6}, {3, 3}, {2, 1, 1}} {
		renumbers(t, full(), order, api.Graph{}, api.ErrArg)
	}
	renumbers(t, full(), []int{1, 2, 3, 4, 5}, api.Graph{}, api.ErrPlace)
}

// spoils are ways to make a graph one that may not be.
func spoils() []func(g *api.Graph) {
	return []func(g *api.Graph){
		func(g *api.Graph) { g.Nodes[0].Kind = -1 },
		func(g *api.Graph) { g.Nodes[2].Kind = 32 },
		func(g *api.Graph) { g.Nodes[2].Fields = make([]api.Val, maxFields+1) },
		func(g *api.Graph) { g.Nodes[4].Raws = make([]uint64, maxRaws+1) },
		func(g *api.Graph) { g.Nodes[0].Fields[0] = ref(6) },
		func(g *api.Graph) { g.Nodes[5].Fields[2] = ref(-1) },
		func(g *api.Graph) { g.Nodes[3].Fields[0] = imm(maxImm + 1) },
		func(g *api.Graph) { g.Nodes[1].Fields[1] = val(0, 1) },
		func(g *api.Graph) { g.Roots[0] = ref(6) },
		func(g *api.Graph) { g.Roots[4] = val(3, 0) },
		func(g *api.Graph) { g.Nodes = g.Nodes[:5] },
	}
}

// To and fro, all nodes in any order: it is as it was.
func TestRenumberToAndFro(t *testing.T) {
	order := []int{0, 1, 2, 3, 4, 5}
	tried := 0
	permute(order, 0, func() {
		back := make([]int, len(order))
		for to, i := range order {
			back[i] = to
		}
		there, err := graph.Renumber(full(), order)
		if err != api.OK {
			t.Fatalf("Renumber by %v: %d", order, err)
		}
		was, err := graph.Renumber(there, back)
		if err != api.OK || !graph.Same(was, full()) || !equal(was, full()) {
			t.Fatalf("by %v to and fro: %v %d", order, was, err)
		}
		tried++
	})
	if tried != 720 {
		t.Errorf("%d orders were tried", tried)
	}
}

// permute does do for all orders of what stands in l from the place at on.
func permute(l []int, at int, do func()) {
	if at == len(l) {
		do()
	}
	for i := at; i < len(l); i++ {
		l[at], l[i] = l[i], l[at]
		permute(l, at+1, do)
		l[at], l[i] = l[i], l[at]
	}
}

// The chapter's example.
func TestTwoThatReferToOneAnother(t *testing.T) {
	for _, alike := range []bool{true, false} {
		g := gr(nodes(node(1, vals(ref(1)), 5), node(1, vals(ref(0)), 5)))
		if !alike {
			g.Nodes[1].Raws[0] = 6
		}
		got, err := graph.Renumber(g, []int{1, 0})
		if err != api.OK || graph.Same(got, g) != alike {
			t.Errorf("alike %v: %v %d", alike, got, err)
		}
	}
}

// hasItsOwn asks that g changes neither with from, nor in two of its lists at once; both are written over.
func hasItsOwn(t *testing.T, g, from api.Graph) {
	t.Helper()
	want := deep(g)
	asks := func(what string, i int) {
		t.Helper()
		if !equal(g, want) {
			t.Fatalf("%s, of the node %d: it is told elsewhere: %s, want %s", what, i, short(g), short(want))
		}
	}
	scratch(from)
	asks("all that was handed in", -1)
	for i, n := range g.Nodes {
		scratchVals(n.Fields)
		scratchVals(want.Nodes[i].Fields)
		asks("fields", i)
		scratchRaws(n.Raws)
		scratchRaws(want.Nodes[i].Raws)
		asks("raw words", i)
	}
	scratchVals(g.Roots)
	scratchVals(want.Roots)
	asks("roots", -1)
}

// oneList is a graph all of whose lists are the same ones, or pieces of them.
func oneList() api.Graph {
	fields := vals(ref(0), ref(1), imm(2), ref(3))
	raws := []uint64{1, 2, 3}
	l := nodes(node(1, fields, raws...), node(2, fields, raws...), node(3, fields[:2], raws[1:]...), node(4, fields[1:3], raws[:1]...))
	return gr(l[:4:4], fields[:3]...)
}

// room is a graph whose lists have room behind their ends.
func room() api.Graph {
	g := full()
	for i := range g.Nodes {
		n := &g.Nodes[i]
		n.Fields = slices.Grow(n.Fields, 9)
		n.Raws = slices.Grow(n.Raws, 9)
	}
	g.Nodes = slices.Grow(g.Nodes, 9)
	g.Roots = slices.Grow(g.Roots, 9)
	return g
}

func TestRenumberSharesNothing(t *testing.T) {
	for _, order := range [][]int{{0, 1, 2, 3, 4, 5}, {5, 4, 3, 2, 1, 0}, {2, 0, 5, 4, 1}, {0, 1, 2, 4, 5}} {
		for _, g := range []api.Graph{full(), room()} {
			want, err := slowRenumber(g, order)
			hasItsOwn(t, renumbers(t, g, order, want, err), g)
		}
	}
	for _, order := range [][]int{{0, 1, 2, 3}, {3, 1, 2, 0}} {
		g := oneList()
		want, err := slowRenumber(g, order)
		hasItsOwn(t, renumbers(t, g, order, want, err), g)
	}
	// The order is not kept.
	order := []int{5, 4, 3, 2, 1, 0}
	want, _ := slowRenumber(full(), order)
	got, _ := graph.Renumber(full(), order)
	clear(order)
	if !equal(got, want) {
		t.Error("what is told changes with the order")
	}
}

// others are ways to change each part of a graph.
func others() []func(g *api.Graph) {
	return append(spoils(),
		func(g *api.Graph) { g.Nodes[0].Kind-- },
		func(g *api.Graph) { g.Nodes[5].Kind++ },
		func(g *api.Graph) { g.Nodes[0].Fields[0].X++ },
		func(g *api.Graph) { g.Nodes[0].Fields[0].Kind = 1 },
		func(g *api.Graph) { g.Nodes[0].Fields[1].X += 1 << 32 },
		func(g *api.Graph) { g.Nodes[5].Fields[0] = imm(0) },
		func(g *api.Graph) { g.Nodes[5].Fields[2].X = 0 },
		func(g *api.Graph) { g.Nodes[0].Fields = g.Nodes[0].Fields[:2] },
		func(g *api.Graph) { g.Nodes[0].Fields = nil },
		func(g *api.Graph) { g.Nodes[2].Fields = make([]api.Val, 1) },
		func(g *api.Graph) { g.Nodes[5].Fields = append(g.Nodes[5].Fields, api.Val{}) },
		func(g *api.Graph) { g.Nodes[1].Raws[0]++ },
		func(g *api.Graph) { g.Nodes[1].Raws[1]-- },
		func(g *api.Graph) { g.Nodes[4].Raws[3] ^= 1 << 63 },
		func(g *api.Graph) { g.Nodes[1].Raws = g.Nodes[1].Raws[:2] },
		func(g *api.Graph) { g.Nodes[2].Raws = make([]uint64, 1) },
		func(g *api.Graph) { g.Nodes[5].Raws = nil },
		func(g *api.Graph) { g.Nodes[2], g.Nodes[4] = g.Nodes[4], g.Nodes[2] },
		func(g *api.Graph) { g.Nodes = g.Nodes[1:] },
		func(g *api.Graph) { g.Nodes = append(g.Nodes, api.Node{}) },
		func(g *api.Graph) { g.Nodes = nil },
		func(g *api.Graph) { g.Roots[0].X++ },
		func(g *api.Graph) { g.Roots[1].Kind = 2 },
		func(g *api.Graph) { g.Roots[4].X = 5 },
		func(g *api.Graph) { g.Roots[0], g.Roots[1] = g.Roots[1], g.Roots[0] },
		func(g *api.Graph) { g.Roots = g.Roots[:4] },
		func(g *api.Graph) { g.Roots = append(g.Roots, api.Val{}) },
		func(g *api.Graph) { g.Roots = nil },
	)
}

func TestSame(t *testing.T) {
	if !graph.Same(full(), full()) || !graph.Same(full(), deep(full())) || !graph.Same(room(), full()) {
		t.Error("two that are the same are not")
	}
	for i, do := range others() {
		a, b := full(), full()
		do(&b)
		if graph.Same(a, b) || graph.Same(b, a) || !graph.Same(b, b) || !graph.Same(b, deep(b)) {
			t.Errorf("the change %d: it is not told", i)
		}
		do(&a)
		if !graph.Same(a, b) {
			t.Errorf("the change %d, done to both: it is told", i)
		}
		if !equal(a, deep(b)) {
			t.Errorf("the change %d: a graph has changed", i)
		}
	}
}

func TestSameOfEmptyLists(t *testing.T) {
	empty := api.Graph{Nodes: []api.Node{}, Roots: []api.Val{}}
	if !graph.Same(api.Graph{}, empty) || !graph.Same(empty, api.Graph{}) || !graph.Same(api.Graph{}, api.Graph{}) {
		t.Error("lists that are empty are not the same")
	}
	a, b := gr(nodes(node(1, nil))), gr(nodes(node(1, []api.Val{}, []uint64{}...)))
	b.Nodes[0].Raws = []uint64{}
	if !graph.Same(a, b) || !graph.Same(b, a) {
		t.Error("a node's lists that are empty are not the same")
	}
	if graph.Same(api.Graph{}, gr(plain(1))) || graph.Same(gr(plain(1)), api.Graph{}) || graph.Same(api.Graph{}, gr(nil, api.Val{})) || graph.Same(gr(nil, api.Val{}), api.Graph{}) {
		t.Error("something is the same as nothing")
	}
}

// Alike, but for the order of nodes or of fields, is not the same; nor is what moved from one list to another.
func TestSameIsPlaceByPlace(t *testing.T) {
	all := []api.Graph{
		gr(nodes(node(0, vals(ref(1))), node(1, nil)), ref(0)),
		gr(nodes(node(1, nil), node(0, vals(ref(0)))), ref(1)),
		gr(nodes(node(0, vals(ref(1))), node(1, nil)), ref(1)),
		gr(nodes(node(0, nil), node(1, vals(ref(1)))), ref(0)),
		gr(nodes(node(0, nil, 1), node(1, nil)), ref(0)),
		gr(nodes(node(0, nil), node(1, nil, 1)), ref(0)),
		gr(nodes(node(0, nil), node(1, nil)), ref(1), ref(0)),
		gr(nodes(node(0, nil), node(1, nil)), ref(0), ref(1)),
		gr(nodes(node(0, vals(imm(1), imm(2))), node(1, nil)), ref(0)),
		gr(nodes(node(0, vals(imm(2), imm(1))), node(1, nil)), ref(0)),
		gr(nodes(node(0, vals(imm(0))), node(1, nil)), ref(0)),
		gr(nodes(node(0, vals(api.Val{})), node(1, nil)), ref(0)),
		gr(nodes(node(0, vals(ref(0))), node(1, nil)), ref(0)),
	}
	for i, a := range all {
		for j, b := range all {
			if graph.Same(a, b) != (i == j) {
				t.Errorf("Same(%v, %v): %v", a, b, i != j)
			}
		}
	}
}

func TestCopy(t *testing.T) {
	same := func(*api.Graph) {}
	none := func(g *api.Graph) { *g = api.Graph{} }
	one := func(g *api.Graph) { *g = oneList() }
	wide := func(g *api.Graph) { *g = room() }
	for i, do := range append(others(), same, none, one, wide) {
		g := full()
		do(&g)
		want := deep(g)
		c := graph.Copy(g)
		if !equal(c, want) || !equal(g, want) || !graph.Same(c, g) || graph.Right(c) != graph.Right(g) {
			t.Fatalf("the change %d: Copy(%s): %s", i, short(want), short(c))
		}
		hasItsOwn(t, c, g)
		g = full()
		do(&g)
		scratch(graph.Copy(g))
		if !equal(g, want) {
			t.Fatalf("the change %d: a change of the copy is told of the graph: %s", i, short(g))
		}
	}
}

// orders are all lists of at most n ints of -1 to top.
func orders(n, top int) [][]int {
	all := [][]int{{}}
	last := all
	for range n {
		var longer [][]int
		for _, l := range last {
			for i := -1; i <= top; i++ {
				longer = append(longer, append(slices.Clone(l), i))
			}
		}
		all = append(all, longer...)
		last = longer
	}
	return all
}

// All of the least graphs: two nodes, one of two fields, one of one, and a root, each of a few values.
func TestAllOfTheLeastGraphs(t *testing.T) {
	pool := vals(api.Val{}, imm(1), ref(0), ref(1), ref(2), val(3, 0))
	asked := orders(3, 2)
	for row := range 6 * 6 * 6 * 6 {
		g := gr(nodes(node(1, vals(pool[row%6], pool[row/6%6]), 5), node(2, vals(pool[row/36%6]))), pool[row/216])
		agrees(t, g, asked...)
		if t.Failed() {
			t.FailNow()
		}
	}
	for _, v := range pool {
		for _, w := range pool {
			agrees(t, gr(nodes(node(3, vals(v))), w), asked...)
			agrees(t, gr(nil, v, w), asked...)
		}
	}
}

// step is the next number of a row that looks like chance, and is always the same.
func step(n uint64) uint64 { return n*6364136223846793005 + 1442695040888963407 }

// below is a number below n.
func below(seed *uint64, n int) int {
	*seed = step(*seed)
	return int(*seed>>33) % n
}

// someVals are values that may stand in a graph of n nodes, but for one in some hundred.
func someVals(seed *uint64, many, n int) []api.Val {
	var l []api.Val
	for range below(seed, many) {
		x := below(seed, 200)
		switch {
		case x == 0:
			l = append(l, wrongVals()[below(seed, len(wrongVals()))])
		case x < 40 || n == 0:
			l = append(l, rightVals[below(seed, 8)])
		default:
			l = append(l, ref(int64(below(seed, n))))
		}
	}
	return l
}

// someGraph is a graph of less than 12 nodes, of which some nodes may not lead on.
func someGraph(seed *uint64) api.Graph {
	var g api.Graph
	n := below(seed, 12)
	for range n {
		raws := make([]uint64, below(seed, 3))
		for i := range raws {
			raws[i] = uint64(below(seed, 5))
		}
		g.Nodes = append(g.Nodes, node(below(seed, 32), someVals(seed, 4, n), raws...))
	}
	g.Roots = someVals(seed, 4, n)
	return g
}

// someOrder is an order of places that are met from the roots, with some others, or one that is wrong.
func someOrder(seed *uint64, g api.Graph) []int {
	var order []int
	add := func(l []api.Val) {
		for _, v := range l {
			if v.Kind == 2 && v.X >= 0 && v.X < int64(len(g.Nodes)) && !slices.Contains(order, int(v.X)) {
				order = slices.Insert(order, below(seed, len(order)+1), int(v.X))
			}
		}
	}
	add(g.Roots)
	for range g.Nodes {
		for _, i := range slices.Clone(order) {
			add(g.Nodes[i].Fields)
		}
	}
	if n := below(seed, 8); n == 0 && len(order) > 0 {
		order = order[1:]
	} else if n == 1 {
		order = slices.Insert(order, below(seed, len(order)+1), below(seed, 14)-1)
	}
	return order
}

func TestManyGraphs(t *testing.T) {
	seed := uint64(16)
	told := [5]int{}
	for range 20000 {
		g := someGraph(&seed)
		order := someOrder(&seed, g)
		agrees(t, g, order)
		if t.Failed() {
			t.FailNow()
		}
		_, err := slowRenumber(g, order)
		told[err]++
	}
	for _, err := range []api.Errno{api.OK, api.ErrArg, api.ErrPlace, api.ErrForm} {
		if told[err] < 500 {
			t.Errorf("%d is told %d times", err, told[err])
		}
	}
}

// What was asked of a graph hangs on nothing that was asked ahead.
func TestSameAgain(t *testing.T) {
	order := []int{3, 5, 0, 4, 1, 2}
	want, err := slowRenumber(full(), order)
	for range 3 {
		for _, do := range spoils() {
			g := full()
			do(&g)
			rights(t, g, false)
			renumbers(t, g, order, api.Graph{}, api.ErrForm)
			rights(t, full(), true)
			renumbers(t, full(), order, want, err)
		}
	}
}

// ring is one of n nodes, each of which leads to the next one, and to the one ahead.
func ring(n int) api.Graph {
	var g api.Graph
	for i := range n {
		g.Nodes = append(g.Nodes, node(i%32, vals(ref(int64((i+1)%n)), ref(int64((i+n-1)%n))), uint64(i)))
	}
	g.Roots = vals(ref(int64(n - 1)))
	return g
}

// A graph may have many more nodes than a heap has words.
func TestGreatGraphs(t *testing.T) {
	const n = 300000
	g := ring(n)
	order := make([]int, n)
	for i := range order {
		order[i] = n - 1 - i
	}
	got, err := graph.Renumber(g, order)
	if err != api.OK || len(got.Nodes) != n || got.Roots[0] != ref(0) {
		t.Fatalf("Renumber: %d nodes, %d", len(got.Nodes), err)
	}
	for i, m := range got.Nodes {
		k := n - 1 - i
		if m.Kind != k%32 || m.Raws[0] != uint64(k) || m.Fields[0] != ref(int64((i+n-1)%n)) || m.Fields[1] != ref(int64((i+1)%n)) {
			t.Fatalf("the node %d: %v", i, m)
		}
	}
	rights(t, got, true)
	sums(t, got, order, 4*n, 2*n)
	order[n-1] = order[0]
	renumbers(t, g, order, api.Graph{}, api.ErrArg)
	renumbers(t, g, order[:n-1], api.Graph{}, api.ErrPlace)
	g.Roots[0] = ref(n)
	renumbers(t, g, order, api.Graph{}, api.ErrForm)
}

// A node may have as many fields as that, all of which lead somewhere.
func TestGreatNodes(t *testing.T) {
	fields := make([]api.Val, maxFields)
	raws := make([]uint64, maxRaws)
	for i := range fields {
		fields[i], raws[i] = ref(int64(i%3)), uint64(i)
	}
	g := gr(nodes(node(0, fields, raws...), node(1, nil), node(2, fields[:1])), fields...)
	agrees(t, g, []int{2, 0, 1}, []int{0, 1, 2}, []int{1, 2, 0}, []int{0, 1}, []int{0, 1, 1}, nil)
	hasItsOwn(t, graph.Copy(g), g)
}
