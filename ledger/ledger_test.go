package ledger_test

import (
	"math"
	"slices"
	"testing"

	"triforium/api"
	"triforium/extent"
	"triforium/ledger"
)

const (
	behind = 1 << 40 // the place behind the last one that a span may have, in digits: a limit that is changed in api would be told here
	row    = 7       // how many places the small tables go over
)

func sp(at, size int) api.Span { return api.Span{At: at, Size: size} }

func list(numbers ...int) []api.Span {
	l := []api.Span{}
	for i := 0; i+1 < len(numbers); i += 2 {
		l = append(l, sp(numbers[i], numbers[i+1]))
	}
	return l
}

// may are spans that may be, at the ends and between.
var may = list(0, 1, 0, 2, 3, 5, 1000, 1, 0, behind, 0, behind-1, 1, behind-1, behind-1, 1, behind-2, 2, behind-2, 1, behind/2, behind/2)

// mayNot are spans that may not be: most of those with a great number have a sum that runs past every int, and is small then.
var mayNot = list(
	0, 0, 5, 0, behind, 0, behind+1, 0, -1, 0, 0, -1, 5, -1, 5, -5, behind+1, -1, behind+5, -5, math.MaxInt, -1, math.MaxInt, math.MinInt, 0, math.MinInt,
	-1, 1, -1, 2, -1, 5, -1, behind, -5, 10, -1, math.MaxInt, math.MinInt, 1, math.MinInt, math.MaxInt, math.MinInt, math.MinInt, -1, -1,
	0, behind+1, 1, behind, 2, behind-1, behind, 1, behind-1, 2, behind+1, 1, behind, behind, behind/2, behind/2+1,
	math.MaxInt, 1, math.MaxInt, 2, math.MaxInt, math.MaxInt, 1, math.MaxInt, 2, math.MaxInt, 0, math.MaxInt, math.MaxInt-5, 10,
)

// slowMay tells by the chapter of spans whether s may be; no sum of it runs past an int.
func slowMay(s api.Span) bool {
	return s.At >= 0 && s.Size >= 1 && s.At <= behind && s.Size <= behind && s.At+s.Size <= behind
}

// words are the places from 0 to 2 * row that s has.
func words(s api.Span) [2 * row]bool {
	var is [2 * row]bool
	for at := max(s.At, 0); slowMay(s) && at < min(s.At+s.Size, len(is)); at++ {
		is[at] = true
	}
	return is
}

// slowMeets tells by the places of small spans whether they have one in common.
func slowMeets(a, b api.Span) bool {
	of, other := words(a), words(b)
	for at := range of {
		if of[at] && other[at] {
			return true
		}
	}
	return false
}

// slowAdd puts s into a list of its own, by the chapter.
func slowAdd(l []api.Span, s api.Span) ([]api.Span, api.Errno) {
	if !slowMay(s) {
		return l, api.ErrArg
	}
	for _, other := range l {
		if slowMeets(other, s) {
			return l, api.ErrTwice
		}
	}
	var table []api.Span
	in := false
	for _, other := range l {
		if !in && other.At > s.At {
			table, in = append(table, s), true
		}
		table = append(table, other)
	}
	if !in {
		table = append(table, s)
	}
	return table, api.OK
}

// slowDrop leaves the first span of the At at out of a list of its own.
func slowDrop(l []api.Span, at int) ([]api.Span, api.Span, api.Errno) {
	for i, s := range l {
		if s.At == at {
			return slices.Concat(l[:i], l[i+1:]), s, api.OK
		}
	}
	return l, api.Span{}, api.ErrPlace
}

func slowFind(l []api.Span, at int) int {
	for i := range l {
		if l[i].At == at {
			return i
		}
	}
	return -1
}

// slowOf tells it of small spans, by their places.
func slowOf(l []api.Span, at int) int {
	for i, s := range l {
		if at >= 0 && at < 2*row && words(s)[at] {
			return i
		}
	}
	return -1
}

// left are as few spans, rising, as have just the places of all that none of l has.
func left(all api.Span, l []api.Span) []api.Span {
	is := words(all)
	for _, s := range l {
		for at, has := range words(s) {
			is[at] = is[at] && !has
		}
	}
	free := []api.Span{}
	for at, in := range is {
		switch {
		case !in:
		case at > 0 && is[at-1]:
			free[len(free)-1].Size++
		default:
			free = append(free, sp(at, 1))
		}
	}
	return free
}

// slowTable tells by the places of small spans whether l is a table of all.
func slowTable(all api.Span, l []api.Span) bool {
	for i, s := range l {
		of, whole := words(s), words(all)
		if !slowMay(s) {
			return false
		}
		for at := range of {
			if of[at] && !whole[at] {
				return false
			}
		}
		for _, ahead := range l[:i] {
			if ahead.At >= s.At || slowMeets(ahead, s) {
				return false
			}
		}
	}
	return true
}

// small are the spans near place 0, those that may not be among them.
func small(top int) []api.Span {
	var l []api.Span
	for at := -1; at < top; at++ {
		for size := -1; size <= 3; size++ {
			l = append(l, sp(at, size))
		}
	}
	return l
}

// eachList hands over the lists of up to three small spans.
func eachList(top int, do func(l []api.Span)) {
	pool := small(top)
	do(nil)
	for _, a := range pool {
		do([]api.Span{a})
		for _, b := range pool {
			do([]api.Span{a, b})
			for _, c := range pool {
				do([]api.Span{a, b, c})
			}
		}
	}
}

// eachTable hands over the tables that are right in a row of places, the first one of which is 0, and what they leave.
func eachTable(do func(l, free []api.Span)) {
	var from func(at int, l []api.Span)
	from = func(at int, l []api.Span) {
		if at == row {
			do(slices.Clone(l), left(sp(0, row), l))
			return
		}
		from(at+1, l)
		for size := 1; at+size <= row; size++ {
			from(at+size, append(slices.Clone(l), sp(at, size)))
		}
	}
	from(0, nil)
}

// moved are the same spans, by further on.
func moved(l []api.Span, by int) []api.Span {
	to := slices.Clone(l)
	for i := range to {
		to[i].At += by
	}
	return to
}

// adds asks how l stands with s put in.
func adds(t *testing.T, l []api.Span, s api.Span, want []api.Span) {
	t.Helper()
	if got, err := ledger.Add(l, s); err != api.OK || !slices.Equal(got, want) {
		t.Errorf("Add(%v, %v): %v %d, want %v and OK", l, s, got, err, want)
	}
}

// refuses asks that s can't be put in, and that l is told as it is.
func refuses(t *testing.T, l []api.Span, s api.Span, want api.Errno) {
	t.Helper()
	if got, err := ledger.Add(l, s); err != want || !slices.Equal(got, l) {
		t.Errorf("Add(%v, %v): %v %d, want it as it is and %d", l, s, got, err, want)
	}
}

// drops asks for the span of the At at, and how l stands without it.
func drops(t *testing.T, l []api.Span, at int, s api.Span, want []api.Span) {
	t.Helper()
	if got, gone, err := ledger.Drop(l, at); err != api.OK || gone != s || !slices.Equal(got, want) {
		t.Errorf("Drop(%v, %d): %v %v %d, want %v %v and OK", l, at, got, gone, err, want, s)
	}
}

// lacks asks that no span of l has the At at, and that l is told as it is.
func lacks(t *testing.T, l []api.Span, at int) {
	t.Helper()
	if got, gone, err := ledger.Drop(l, at); err != api.ErrPlace || gone != sp(0, 0) || !slices.Equal(got, l) {
		t.Errorf("Drop(%v, %d): %v %v %d, want it as it is, no span and %d", l, at, got, gone, err, api.ErrPlace)
	}
	find(t, l, at, -1)
}

func find(t *testing.T, l []api.Span, at, want int) {
	t.Helper()
	if got := ledger.Find(l, at); got != want {
		t.Errorf("Find(%v, %d): %d, want %d", l, at, got, want)
	}
}

func of(t *testing.T, l []api.Span, at, want int) {
	t.Helper()
	if got := ledger.Of(l, at); got != want {
		t.Errorf("Of(%v, %d): %d, want %d", l, at, got, want)
	}
}

func right(t *testing.T, all api.Span, l, free []api.Span, want bool) {
	t.Helper()
	if ledger.Right(all, l, free) != want {
		t.Errorf("Right(%v, %v, %v): %v", all, l, free, !want)
	}
}

// The chapter's example.
func TestExample(t *testing.T) {
	adds(t, list(4, 2), sp(0, 3), list(0, 3, 4, 2))
	of(t, list(0, 3, 4, 2), 5, 1)
}

// Promise 11.1, Add: it stands by its At, ahead of the others, between them, or behind them.
func TestAdd(t *testing.T) {
	adds(t, nil, sp(3, 2), list(3, 2))
	adds(t, list(), sp(0, 1), list(0, 1))
	adds(t, list(4, 2), sp(6, 1), list(4, 2, 6, 1))
	adds(t, list(4, 2, 9, 1), sp(0, 3), list(0, 3, 4, 2, 9, 1))
	adds(t, list(4, 2, 9, 1), sp(7, 1), list(4, 2, 7, 1, 9, 1))
	adds(t, list(4, 2, 9, 1), sp(20, 5), list(4, 2, 9, 1, 20, 5))
}

// Promise 11.1, Add: it is not joined with what it touches, on either side.
func TestAddDoesNotJoin(t *testing.T) {
	adds(t, list(4, 2), sp(6, 3), list(4, 2, 6, 3))
	adds(t, list(4, 2), sp(0, 4), list(0, 4, 4, 2))
	adds(t, list(0, 2, 5, 1), sp(2, 3), list(0, 2, 2, 3, 5, 1))
	adds(t, list(0, 2, 2, 2, 4, 2), sp(6, 1), list(0, 2, 2, 2, 4, 2, 6, 1))
}

// Promise 11.1, Add: ahead of the first one of a greater At, whatever the order of the list is; the others stay as they stand.
func TestAddToListsThatAreNotRight(t *testing.T) {
	adds(t, list(9, 2, 0, 2, 20, 1), sp(5, 2), list(5, 2, 9, 2, 0, 2, 20, 1))
	adds(t, list(0, 2, 20, 1, 9, 2), sp(12, 2), list(0, 2, 12, 2, 20, 1, 9, 2))
	adds(t, list(9, 2, 0, 2), sp(12, 1), list(9, 2, 0, 2, 12, 1))
	adds(t, list(9, 2, 9, 2, 3, 4, 4, 1), sp(0, 1), list(0, 1, 9, 2, 9, 2, 3, 4, 4, 1))
	adds(t, list(9, 2, 9, 2, 3, 4, 4, 1), sp(12, 1), list(9, 2, 9, 2, 3, 4, 4, 1, 12, 1))
}

// Promise 11.1, Add: spans of the list that may not be meet none, but have their At: of one At the new one stands behind.
func TestAddBesideSpansThatMayNotBe(t *testing.T) {
	adds(t, list(5, 0), sp(5, 2), list(5, 0, 5, 2))
	adds(t, list(5, 0, 5, -1, 6, 0), sp(5, 2), list(5, 0, 5, -1, 5, 2, 6, 0))
	for _, s := range mayNot {
		for _, in := range may {
			want := []api.Span{s, in}
			if s.At > in.At {
				want = []api.Span{in, s}
			}
			adds(t, []api.Span{s}, in, want)
			refuses(t, []api.Span{s, in}, in, api.ErrTwice)
		}
	}
}

// Promise 11.1, Add, at both ends of what a span may have.
func TestAddAtTheEnds(t *testing.T) {
	adds(t, nil, sp(0, behind), list(0, behind))
	adds(t, list(0, behind-1), sp(behind-1, 1), list(0, behind-1, behind-1, 1))
	adds(t, list(1, behind-1), sp(0, 1), list(0, 1, 1, behind-1))
	adds(t, list(0, 5, 6, behind-6), sp(5, 1), list(0, 5, 5, 1, 6, behind-6))
	for _, s := range may {
		adds(t, nil, s, []api.Span{s})
	}
}

// Promise 11.1, Add of what may not be: told of each list, also of one that has its numbers, ahead of what it meets.
func TestAddOfSpansThatMayNotBe(t *testing.T) {
	for _, s := range mayNot {
		for _, l := range [][]api.Span{nil, {}, list(9, 2, 5, 1), list(4, 2, 4, 2), list(0, behind), {s}, may, mayNot} {
			refuses(t, l, s, api.ErrArg)
		}
	}
}

// Promise 11.1, Add of what stands there already, in part or all of it, be it the first one of the list or the last one.
func TestAddTwice(t *testing.T) {
	for _, s := range may {
		refuses(t, []api.Span{s}, s, api.ErrTwice)
		refuses(t, list(0, behind), s, api.ErrTwice)
		refuses(t, []api.Span{s}, sp(0, behind), api.ErrTwice)
		refuses(t, []api.Span{s}, sp(s.At+s.Size-1, 1), api.ErrTwice)
		refuses(t, []api.Span{s}, sp(s.At, 1), api.ErrTwice)
	}
	l := list(20, 3, 4, 2, 4, 1, 9, 9)
	for _, s := range list(19, 2, 22, 1, 22, 5, 3, 2, 5, 1, 5, 4, 0, 5, 8, 2, 17, 1, 12, 1, 0, 30, 6, 4) {
		refuses(t, l, s, api.ErrTwice)
	}
}

// Promise 11.1, Drop: the span that begins at the place, not one that has it otherwise.
func TestDrop(t *testing.T) {
	l := list(0, 3, 4, 2, 9, 1)
	drops(t, l, 0, sp(0, 3), list(4, 2, 9, 1))
	drops(t, l, 4, sp(4, 2), list(0, 3, 9, 1))
	drops(t, l, 9, sp(9, 1), list(0, 3, 4, 2))
	drops(t, list(7, 2), 7, sp(7, 2), nil)
	drops(t, list(0, behind), 0, sp(0, behind), nil)
	drops(t, list(0, 1, behind-1, 1), behind-1, sp(behind-1, 1), list(0, 1))
	for _, at := range []int{-1, 1, 2, 3, 5, 6, 8, 10, 100, behind, math.MaxInt, math.MinInt} {
		lacks(t, l, at)
		lacks(t, nil, at)
		lacks(t, list(), at)
	}
}

// Promise 11.1, Drop: of several of one At the first one as the list stands; the others stay, in their order.
func TestDropOfTheFirstOne(t *testing.T) {
	drops(t, list(4, 2, 4, 1, 4, 2), 4, sp(4, 2), list(4, 1, 4, 2))
	drops(t, list(9, 2, 4, 3, 0, 1, 4, 2), 4, sp(4, 3), list(9, 2, 0, 1, 4, 2))
	drops(t, list(9, 2, 4, 3, 0, 1, 4, 2), 0, sp(0, 1), list(9, 2, 4, 3, 4, 2))
	drops(t, list(2, 9, 4, 3), 4, sp(4, 3), list(2, 9))
}

// Promise 11.1, Drop and Find: a span that may not be has its At, too.
func TestDropOfSpansThatMayNotBe(t *testing.T) {
	for _, s := range mayNot {
		drops(t, []api.Span{s}, s.At, s, nil)
		drops(t, []api.Span{sp(77, 2), s, sp(s.At, 3)}, s.At, s, []api.Span{sp(77, 2), sp(s.At, 3)})
		lacks(t, []api.Span{s, sp(77, 2)}, 78)
		find(t, []api.Span{sp(77, 2), s, s}, s.At, 1)
		of(t, []api.Span{s}, s.At, -1)
		of(t, []api.Span{s}, s.At+1, -1)
	}
}

// Promise 11.1, Find: just where a span begins.
func TestFind(t *testing.T) {
	l := list(0, 3, 4, 2, 9, 1, 4, 7)
	for at, want := range []int{0, -1, -1, -1, 1, -1, -1, -1, -1, 2, -1} {
		find(t, l, at, want)
	}
	for i, s := range list(7, 1, 6, 1, 5, 1) {
		find(t, list(7, 1, 6, 1, 5, 1), s.At, i)
	}
	find(t, nil, 0, -1)
	find(t, list(), 0, -1)
	find(t, l, -1, -1)
	find(t, l, math.MaxInt, -1)
	find(t, l, math.MinInt, -1)
	find(t, list(0, 1, behind-1, 1), behind-1, 1)
}

// Promise 11.1, Of: each word of a span, and none beside it; of several that have it the first one as the list stands.
func TestOf(t *testing.T) {
	l := list(1, 3, 4, 2, 9, 1, 4, 7)
	for at, want := range []int{-1, 0, 0, 0, 1, 1, 3, 3, 3, 2, 3, -1, -1} {
		of(t, l, at, want)
	}
	of(t, list(9, 2, 5, 1, 0, 2), 1, 2)
	of(t, nil, 0, -1)
	of(t, list(), 0, -1)
	for _, at := range []int{-1, math.MaxInt, math.MinInt, behind} {
		of(t, l, at, -1)
		of(t, list(0, behind), at, -1)
	}
	of(t, list(0, 5, 6, behind-6), behind-1, 1)
	of(t, list(0, 5, 6, behind-6), 5, -1)
	for _, at := range []int{-1, 0, 1, 5, behind - 1, behind, math.MaxInt, math.MinInt} {
		of(t, mayNot, at, -1)
	}
}

// Promise 11.1, of each list of small spans.
func TestEachList(t *testing.T) {
	pool := append(small(6), sp(0, 9), sp(1, 5), sp(-2, 9), sp(4, 7))
	eachList(3, func(l []api.Span) {
		for _, s := range pool {
			table, want := slowAdd(l, s)
			if got, err := ledger.Add(l, s); err != want || !slices.Equal(got, table) {
				t.Fatalf("Add(%v, %v): %v %d, want %v %d", l, s, got, err, table, want)
			}
		}
		for at := -2; at <= row; at++ {
			table, s, want := slowDrop(l, at)
			if got, gone, err := ledger.Drop(l, at); err != want || gone != s || !slices.Equal(got, table) {
				t.Fatalf("Drop(%v, %d): %v %v %d, want %v %v %d", l, at, got, gone, err, table, s, want)
			}
			find(t, l, at, slowFind(l, at))
			of(t, l, at, slowOf(l, at))
		}
	})
}

// Promise 11.2, Right: within all, at both of its ends.
func TestRightIsWithinAll(t *testing.T) {
	all := sp(4, 6)
	right(t, all, nil, list(4, 6), true)
	right(t, all, list(4, 6), nil, true)
	right(t, all, list(4, 1), list(5, 5), true)
	right(t, all, list(9, 1), list(4, 5), true)
	right(t, all, list(4, 2, 7, 1, 9, 1), list(6, 1, 8, 1), true)
	right(t, all, list(3, 1), list(4, 6), false)
	right(t, all, list(3, 2), list(5, 5), false)
	right(t, all, list(9, 2), list(4, 5), false)
	right(t, all, list(10, 1), list(4, 6), false)
	right(t, all, list(3, 8), nil, false)
	right(t, all, list(4, 7), nil, false)
	right(t, all, list(5, 1, 20, 1), list(4, 1, 6, 4), false)
	right(t, all, list(0, 1, 5, 1), list(4, 1, 6, 4), false)
	right(t, sp(0, behind), list(0, 1, behind-1, 1), list(1, behind-2), true)
	right(t, sp(0, behind), list(0, behind), nil, true)
	right(t, sp(0, behind), nil, list(0, behind), true)
	right(t, sp(1, behind-1), list(0, behind), nil, false)
	right(t, sp(0, behind-1), list(0, behind), nil, false)
}

// Promise 11.2, Right: rising, and none meets another one; they may touch.
func TestRightIsRising(t *testing.T) {
	all := sp(0, 9)
	right(t, all, list(0, 2, 2, 1, 3, 4), list(7, 2), true)
	right(t, all, list(0, 9), nil, true)
	right(t, all, list(2, 1, 0, 2), list(3, 6), false)
	right(t, all, list(0, 1, 5, 1, 3, 1), list(1, 2, 4, 1, 6, 3), false)
	right(t, all, list(3, 1, 0, 1, 5, 1), list(1, 2, 4, 1, 6, 3), false)
	right(t, all, list(0, 1, 3, 1, 5, 1), list(1, 2, 4, 1, 6, 3), true)
	right(t, all, list(2, 3, 2, 3), list(0, 2, 5, 4), false)
	right(t, all, list(2, 1, 2, 3), list(0, 2, 5, 4), false)
	right(t, all, list(2, 3, 3, 2), list(0, 2, 5, 4), false)
	right(t, all, list(2, 3, 3, 1), list(0, 2, 5, 4), false)
	right(t, all, list(0, 8, 1, 1, 8, 1), nil, false)
	right(t, all, list(0, 8, 4, 5), nil, false)
}

// Promise 11.2, Right: what is free is all that they leave, and nothing else, as few spans, rising.
func TestRightIsFree(t *testing.T) {
	all, l := sp(0, 9), list(2, 2, 6, 1)
	right(t, all, l, list(0, 2, 4, 2, 7, 2), true)
	for _, free := range [][]api.Span{
		nil, {}, list(0, 2), list(0, 2, 4, 2), list(4, 2, 7, 2), list(0, 2, 7, 2), list(0, 1, 1, 1, 4, 2, 7, 2), list(0, 2, 4, 1, 5, 1, 7, 2), list(0, 2, 4, 2, 7, 1),
		list(0, 2, 4, 2, 7, 3), list(0, 2, 4, 3, 7, 2), list(1, 1, 4, 2, 7, 2), list(-1, 3, 4, 2, 7, 2), list(4, 2, 0, 2, 7, 2), list(0, 2, 0, 2, 4, 2, 7, 2),
		list(0, 2, 4, 2, 7, 2, 7, 2), list(0, 2, 4, 2, 7, 2, 20, 1), list(0, 2, 4, 2, 7, 2, 9, 0), list(3, 0, 0, 2, 4, 2, 7, 2), list(0, 9), list(2, 2, 6, 1),
	} {
		right(t, all, l, free, false)
	}
	right(t, all, nil, nil, false)
	right(t, all, list(0, 9), list(0, 1), false)
	for _, s := range mayNot {
		right(t, all, list(0, 9), []api.Span{s}, false)
		right(t, all, l, append(list(0, 2, 4, 2, 7, 2), s), false)
		right(t, all, l, append([]api.Span{s}, list(0, 2, 4, 2, 7, 2)...), false)
	}
}

// Promise 11.2, Right: a span that may not be stands in no table, nor is anything in a part that may not be.
func TestRightOfSpansThatMayNotBe(t *testing.T) {
	for _, s := range mayNot {
		right(t, sp(0, behind), []api.Span{s}, list(0, behind), false)
		right(t, sp(0, behind), []api.Span{s}, nil, false)
		right(t, sp(0, 9), list(0, 9, s.At, s.Size), nil, false)
		right(t, sp(0, 9), list(s.At, s.Size, 0, 9), nil, false)
		right(t, s, nil, nil, true)
		right(t, s, list(), list(), true)
		right(t, s, []api.Span{s}, nil, false)
		right(t, s, nil, []api.Span{s}, false)
		right(t, s, list(3, 1), nil, false)
		right(t, s, nil, list(3, 1), false)
		right(t, s, list(0, 0), nil, false)
		right(t, s, nil, list(0, 0), false)
	}
}

// Promise 11.2, of each list of small spans, with what it leaves, and with what it does not.
func TestRightOfEachList(t *testing.T) {
	for _, all := range list(0, 6, 1, 3, 2, 1, 0, 2, 0, 0, -1, 5, 3, -1) {
		eachList(4, func(l []api.Span) {
			want := slowTable(all, l)
			free := left(all, l)
			right(t, all, l, free, want)
			right(t, all, l, append(free, sp(3, 1)), false)
			if len(free) > 0 {
				right(t, all, l, free[1:], false)
			}
		})
	}
}

// Promise 11.2, of each table of a row of places, wherever the row is.
func TestRightOfEachTable(t *testing.T) {
	eachTable(func(l, free []api.Span) {
		for _, by := range []int{0, 5, behind - row} {
			right(t, sp(by, row), moved(l, by), moved(free, by), true)
			right(t, sp(by, row-1), moved(l, by), moved(free, by), false)
		}
		right(t, sp(0, row+1), l, free, false)
		right(t, sp(1, row-1), l, free, false)
		if len(l) > 1 {
			slices.Reverse(l)
			right(t, sp(0, row), l, free, false)
		}
	})
}

// Promise 11.3: what is taken of what is free, and added, leaves it right.
func TestWhatIsTakenStaysRight(t *testing.T) {
	for _, by := range []int{0, 5, behind - row} {
		all := sp(by, row)
		eachTable(func(l, free []api.Span) {
			l, free = moved(l, by), moved(free, by)
			for n := 1; n <= row; n++ {
				rest, at, err := extent.Take(free, n)
				if err != api.OK {
					continue
				}
				table, errAdd := ledger.Add(l, sp(at, n))
				if errAdd != api.OK {
					t.Errorf("Add(%v, %v): %d, want OK", l, sp(at, n), errAdd)
				}
				right(t, all, table, rest, true)
				drops(t, table, at, sp(at, n), l)
				refuses(t, table, sp(at, n), api.ErrTwice)
			}
		})
	}
}

// Promise 11.3: what is dropped, and given back, leaves it right; added again, it is as it was.
func TestWhatIsDroppedStaysRight(t *testing.T) {
	for _, by := range []int{0, 5, behind - row} {
		all := sp(by, row)
		eachTable(func(l, free []api.Span) {
			l, free = moved(l, by), moved(free, by)
			for _, s := range l {
				table, gone, _ := ledger.Drop(l, s.At)
				more, err := extent.Give(free, gone)
				if err != api.OK || gone != s {
					t.Errorf("Drop(%v, %d): %v, and Give(%v): %d", l, s.At, gone, free, err)
				}
				right(t, all, table, more, true)
				lacks(t, table, s.At)
				adds(t, table, gone, l)
			}
		})
	}
}

// Promise 11.3: many spans, added and dropped in other orders.
func TestManyAddedAndDropped(t *testing.T) {
	all := sp(100, 400)
	free := []api.Span{all}
	var l []api.Span
	for i := range 1000 {
		n := 1 + i*7%13
		rest, at, err := extent.Take(free, n)
		if err == api.OK {
			l, _ = ledger.Add(l, sp(at, n))
			free = rest
		}
		right(t, all, l, free, true)
		if i%3 == 2 || err != api.OK {
			table, gone, _ := ledger.Drop(l, l[i*31%len(l)].At)
			l = table
			free, _ = extent.Give(free, gone)
			right(t, all, l, free, true)
		}
	}
	for len(l) > 0 {
		table, gone, _ := ledger.Drop(l, l[len(l)/2].At)
		l = table
		free, _ = extent.Give(free, gone)
	}
	if !slices.Equal(free, []api.Span{all}) {
		t.Errorf("all given back: %v, want %v", free, all)
	}
}

// R4: what is handed in stays as it is, behind its end, too; what is answered is new memory, beside an error, too.
func TestListsAreNotChangedAndNotShared(t *testing.T) {
	for _, l := range [][]api.Span{list(0, 2, 4, 5, 20, 3), list(9, 2, 5, 1, 0, 2), list(7, -1, 3, 2, 3, 2, 1, 9, 0, 0), list(4, 2), mayNot} {
		was := slices.Clone(l)
		for _, part := range [][]api.Span{l, l[:1], l[:0]} {
			held := slices.Clone(part)
			var told [][]api.Span
			for _, s := range list(30, 2, 11, 1, 3, 1, 2, 2, 4, 1, 0, 0, -1, 4, 0, 50) {
				table, _ := ledger.Add(part, s)
				told = append(told, table)
			}
			for _, at := range []int{-1, 0, 1, 3, 4, 5, 7, 9, 20} {
				table, _, _ := ledger.Drop(part, at)
				told = append(told, table)
				ledger.Find(part, at)
				ledger.Of(part, at)
			}
			ledger.Right(sp(0, 30), part, part)
			ledger.Right(sp(0, 30), part, list(0, 30))
			for _, answer := range told {
				spoil(answer)
			}
			if !slices.Equal(part, held) || !slices.Equal(l, was) {
				t.Errorf("the list %v was changed: %v", was, l)
			}
		}
	}
}

// spoil writes into all that a list may reach.
func spoil(l []api.Span) {
	l = l[:cap(l)]
	for i := range l {
		l[i] = sp(-7, -7)
	}
}

// R3: a list that is empty is told alike, be it nil or not.
func TestEmptyLists(t *testing.T) {
	for _, l := range [][]api.Span{nil, {}, list(0, 1)[:0]} {
		adds(t, l, sp(2, 3), list(2, 3))
		refuses(t, l, sp(0, 0), api.ErrArg)
		lacks(t, l, 0)
		of(t, l, 0, -1)
		right(t, sp(0, 1), l, list(0, 1), true)
		right(t, sp(0, 1), list(0, 1), l, true)
		right(t, sp(0, 1), l, l, false)
		right(t, sp(0, 0), l, nil, true)
		right(t, sp(0, 0), nil, l, true)
	}
}

// R1, R5: long lists end, and are told the same again.
func TestLongLists(t *testing.T) {
	const n = 1 << 16
	var l, free []api.Span
	for i := range n {
		l = append(l, sp(3*i, 2))
		free = append(free, sp(3*i+2, 1))
	}
	all := sp(0, 3*n)
	for range 2 {
		right(t, all, l, free, true)
		right(t, all, l, free[1:], false)
		find(t, l, 3*(n-1), n-1)
		of(t, l, 3*(n-1)+1, n-1)
		of(t, l, 3*(n-1)+2, -1)
		table, gone, err := ledger.Drop(l, 3*(n-1))
		if err != api.OK || gone != sp(3*(n-1), 2) || !slices.Equal(table, l[:n-1]) {
			t.Fatalf("Drop of %d: %d left, %v %d", n, len(table), gone, err)
		}
		back, err := ledger.Add(table, gone)
		if err != api.OK || !slices.Equal(back, l) {
			t.Fatalf("Add to %d: %d, %d", len(table), len(back), err)
		}
	}
}
