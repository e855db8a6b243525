package span_test

import (
	"math"
	"slices"
	"testing"

	"triforium/api"
	"triforium/span"
)

const (
	behind = 1 << 40 // the place behind the last one that a span may have
	most   = 1 << 62 // that Total tells
	low    = -3      // the places that the slow words look at: those of small spans, and some around them
	high   = 12
)

func sp(at, size int) api.Span { return api.Span{At: at, Size: size} }

func list(numbers ...int) []api.Span {
	l := []api.Span{}
	for i := 0; i+1 < len(numbers); i += 2 {
		l = append(l, sp(numbers[i], numbers[i+1]))
	}
	return l
}

// may are spans that may be, at the ends and between.
var may = list(0, 1, 0, 2, 3, 5, 1000, 1, 0, behind, 0, behind-1, 1, behind-1, behind-1, 1, behind-2, 2, behind-2, 1, behind/2, behind/2)

// mayNot are spans that may not be: most of those with a great number have a sum that runs past every int, and is small then.
var mayNot = list(
	0, 0, 5, 0, behind, 0, behind+1, 0, behind-1, 0,
	0, -1, 5, -1, 5, -5, 7, -2, behind+1, -1, behind+5, -5, math.MaxInt, -1, math.MaxInt, math.MinInt, 0, math.MinInt,
	-1, 1, -1, 2, -1, 5, -1, behind, -5, 10, -1, math.MaxInt, math.MinInt, 1, math.MinInt, math.MaxInt, math.MinInt, math.MinInt, -1, -1, -1, 0,
	0, behind+1, 1, behind, 2, behind-1, behind, 1, behind-1, 2, behind+1, 1, behind, behind, behind/2, behind/2+1,
	math.MaxInt, 1, math.MaxInt, 2, math.MaxInt, math.MaxInt, 1, math.MaxInt, 2, math.MaxInt, 0, math.MaxInt, behind, math.MaxInt, math.MaxInt, behind, math.MaxInt-5, 10,
)

// small are the spans near place 0, those that may not be among them.
func small(top int) []api.Span {
	var l []api.Span
	for at := -1; at < top; at++ {
		for size := -1; size <= 3; size++ {
			l = append(l, sp(at, size))
		}
	}
	return l
}

// slowHas tells a small span's words as the chapter's section Words does.
func slowHas(s api.Span, at int) bool {
	if s.At < 0 || s.Size < 1 {
		return false
	}
	for i := 0; i < s.Size; i++ {
		if s.At+i == at {
			return true
		}
	}
	return false
}

func slowOneHas(l []api.Span, at int) bool {
	for _, s := range l {
		if slowHas(s, at) {
			return true
		}
	}
	return false
}

// slowRows tells as few spans, rising, as have just the words that is tells.
func slowRows(is func(at int) bool) []api.Span {
	var l []api.Span
	for at := low; at <= high; at++ {
		switch {
		case !is(at):
		case is(at - 1):
			l[len(l)-1].Size++
		default:
			l = append(l, sp(at, 1))
		}
	}
	return l
}

func slowJoin(l []api.Span) []api.Span {
	return slowRows(func(at int) bool { return slowOneHas(l, at) })
}

func slowGaps(all api.Span, l []api.Span) []api.Span {
	return slowRows(func(at int) bool { return slowHas(all, at) && !slowOneHas(l, at) })
}

// eachList hands over the lists of up to three small spans.
func eachList(top int, do func(l []api.Span)) {
	pool := small(top)
	do(nil)
	for _, a := range pool {
		do([]api.Span{a})
		for _, b := range pool {
			do([]api.Span{a, b})
			for _, c := range pool {
				do([]api.Span{a, b, c})
			}
		}
	}
}

func same(t *testing.T, what string, got, want []api.Span) {
	t.Helper()
	if !slices.Equal(got, want) {
		t.Errorf("%s: %v, want %v", what, got, want)
	}
}

// Promise 3.1, May.
func TestMay(t *testing.T) {
	for _, s := range may {
		if !span.May(s) {
			t.Errorf("May(%v): false", s)
		}
	}
	for _, s := range mayNot {
		if span.May(s) {
			t.Errorf("May(%v): true", s)
		}
	}
	for _, s := range small(5) {
		if span.May(s) != (s.At >= 0 && s.Size >= 1) {
			t.Errorf("May(%v): %v", s, span.May(s))
		}
	}
}

// Promise 3.1, Has, of small spans.
func TestHas(t *testing.T) {
	for _, s := range small(6) {
		for at := low; at <= high; at++ {
			if got := span.Has(s, at); got != slowHas(s, at) {
				t.Errorf("Has(%v, %d): %v", s, at, got)
			}
		}
	}
}

// Promise 3.1, Has, at the ends.
func TestHasAtTheEnds(t *testing.T) {
	for _, s := range may {
		for _, at := range []int{s.At, s.At + s.Size - 1, s.At + s.Size/2} {
			if !span.Has(s, at) {
				t.Errorf("Has(%v, %d): false", s, at)
			}
		}
		for _, at := range []int{s.At - 1, s.At + s.Size, -1, behind, math.MinInt, math.MaxInt} {
			if span.Has(s, at) {
				t.Errorf("Has(%v, %d): true", s, at)
			}
		}
	}
	for _, s := range mayNot {
		for _, at := range []int{s.At, s.At + s.Size - 1, s.At + 1, s.At - 1, 0, -1, 1, behind, behind - 1, math.MinInt, math.MaxInt} {
			if span.Has(s, at) {
				t.Errorf("Has(%v, %d): true", s, at)
			}
		}
	}
}

// Promise 3.1, Meets and Within, of small spans.
func TestMeetsAndWithin(t *testing.T) {
	for _, a := range small(6) {
		for _, b := range small(6) {
			meets, all, any := false, true, false
			for at := low; at <= high; at++ {
				meets = meets || slowHas(a, at) && slowHas(b, at)
				any = any || slowHas(a, at)
				all = all && (!slowHas(a, at) || slowHas(b, at))
			}
			if span.Meets(a, b) != meets {
				t.Errorf("Meets(%v, %v): %v", a, b, span.Meets(a, b))
			}
			if span.Within(a, b) != (any && all) {
				t.Errorf("Within(%v, %v): %v", a, b, span.Within(a, b))
			}
		}
	}
}

// Promise 3.1, Meets and Within, at the ends.
func TestMeetsAndWithinAtTheEnds(t *testing.T) {
	cases := []struct {
		a, b              api.Span
		meets, aInB, bInA bool
	}{
		{sp(0, behind), sp(behind-1, 1), true, false, true}, {sp(0, behind-1), sp(behind-1, 1), false, false, false},
		{sp(0, behind), sp(0, behind), true, true, true}, {sp(0, behind), sp(1, behind-1), true, false, true},
		{sp(0, behind-1), sp(1, behind-1), true, false, false}, {sp(behind-2, 2), sp(behind-1, 1), true, false, true},
		{sp(0, 1), sp(behind-1, 1), false, false, false},
	}
	for _, c := range cases {
		if span.Meets(c.a, c.b) != c.meets || span.Meets(c.b, c.a) != c.meets {
			t.Errorf("Meets of %v and %v: %v, %v", c.a, c.b, span.Meets(c.a, c.b), span.Meets(c.b, c.a))
		}
		if span.Within(c.a, c.b) != c.aInB || span.Within(c.b, c.a) != c.bInA {
			t.Errorf("Within of %v and %v: %v, %v", c.a, c.b, span.Within(c.a, c.b), span.Within(c.b, c.a))
		}
	}
}

// Promise 3.1: what has no words meets nothing, and stands within nothing.
func TestSpansThatMayNotBeHaveNoWords(t *testing.T) {
	for _, s := range mayNot {
		for _, b := range slices.Concat(may, mayNot) {
			if span.Meets(s, b) || span.Meets(b, s) {
				t.Errorf("Meets of %v and %v: %v, %v", s, b, span.Meets(s, b), span.Meets(b, s))
			}
			if span.Within(s, b) || span.Within(b, s) {
				t.Errorf("Within of %v and %v: %v, %v", s, b, span.Within(s, b), span.Within(b, s))
			}
		}
	}
}

// Promise 3.1, Apart, of small spans.
func TestApart(t *testing.T) {
	eachList(4, func(l []api.Span) {
		want := true
		for at := low; at <= high; at++ {
			count := 0
			for _, s := range l {
				want = want && s.At >= 0 && s.Size >= 1
				if slowHas(s, at) {
					count++
				}
			}
			want = want && count <= 1
		}
		if span.Apart(l) != want {
			t.Errorf("Apart(%v): %v", l, span.Apart(l))
		}
	})
}

// Promise 3.1, Apart, at the ends and of more spans.
func TestApartAtTheEnds(t *testing.T) {
	for _, l := range [][]api.Span{
		nil, {}, list(0, behind), list(behind-1, 1, 0, behind-1), list(5, 1, 0, 2, 2, 1), list(8, 2, 6, 2, 4, 2, 2, 2, 0, 2), list(behind-2, 1, 0, 1, behind-1, 1),
	} {
		if !span.Apart(l) {
			t.Errorf("Apart(%v): false", l)
		}
	}
	for _, l := range [][]api.Span{
		list(3, 2, 3, 2), list(0, 10, 2, 1), list(2, 1, 0, 10), list(0, 10, 2, 1, 9, 1), list(8, 2, 6, 2, 4, 3, 2, 2, 0, 2), list(0, behind, behind-1, 1), list(0, 1, behind-1, 1, 0, 1),
	} {
		if span.Apart(l) {
			t.Errorf("Apart(%v): true", l)
		}
	}
	for _, s := range mayNot {
		for _, l := range [][]api.Span{{s}, {s, sp(7, 1)}, {sp(7, 1), s}, {sp(7, 1), s, sp(9, 1)}} {
			if span.Apart(l) {
				t.Errorf("Apart(%v): true", l)
			}
		}
	}
}

// Promise 3.2, Sort.
func TestSort(t *testing.T) {
	same(t, "Sort of none", span.Sort(nil), nil)
	same(t, "Sort of none", span.Sort([]api.Span{}), nil)
	same(t, "Sort of one", span.Sort(list(5, 1)), list(5, 1))
	same(t, "Sort", span.Sort(list(5, 1, 0, 2, 2, 1)), list(0, 2, 2, 1, 5, 1))
	same(t, "Sort of one At", span.Sort(list(4, 3, 4, 1, 4, 2, 4, 1)), list(4, 1, 4, 1, 4, 2, 4, 3))
	same(t, "Sort by At, not by Size", span.Sort(list(3, 1, 2, 9, 1, 5)), list(1, 5, 2, 9, 3, 1))
	same(t, "Sort of those that may not be", span.Sort(list(2, 0, 2, -1, -1, 4, 0, 3, 2, 1)), list(-1, 4, 0, 3, 2, -1, 2, 0, 2, 1))
	same(t, "Sort of great numbers", span.Sort(list(
		math.MaxInt, math.MaxInt, math.MaxInt, math.MinInt, 0, math.MaxInt, math.MinInt, 1, 0, math.MinInt, 1, 1, math.MinInt, math.MinInt,
	)), list(
		math.MinInt, math.MinInt, math.MinInt, 1, 0, math.MinInt, 0, math.MaxInt, 1, 1, math.MaxInt, math.MinInt, math.MaxInt, math.MaxInt,
	))
}

// Promise 3.2, Sort: the same spans as often, and none ahead of a lesser one.
func TestSortOfEachList(t *testing.T) {
	eachList(3, func(l []api.Span) {
		got := span.Sort(l)
		if len(got) != len(l) {
			t.Fatalf("Sort(%v): %v", l, got)
		}
		for i, s := range got {
			if i > 0 && (got[i-1].At > s.At || got[i-1].At == s.At && got[i-1].Size > s.Size) {
				t.Errorf("Sort(%v): %v", l, got)
			}
			if count(l, s) != count(got, s) {
				t.Errorf("Sort(%v): %v", l, got)
			}
		}
	})
}

func count(l []api.Span, s api.Span) int {
	n := 0
	for _, x := range l {
		if x == s {
			n++
		}
	}
	return n
}

// Promise 3.2, Total.
func TestTotal(t *testing.T) {
	cases := []struct {
		l    []api.Span
		want int
	}{
		{nil, 0}, {list(), 0}, {list(0, 1), 1}, {list(5, 1, 0, 2, 2, 1), 4}, {list(3, 2, 3, 2), 4}, {list(0, 10, 2, 1), 11},
		{list(0, behind), behind}, {list(0, behind, 0, behind, 1, behind-1), 3*behind - 1},
		{list(0, 0, 4, -7, -1, 5, 6, 2), 2}, {list(0, behind+1, 1, 3), 3}, {list(math.MaxInt, math.MaxInt, 1, math.MaxInt, 1, 3, math.MinInt, 9), 3},
		{mayNot, 0},
	}
	for _, c := range cases {
		if got := span.Total(c.l); got != c.want {
			t.Errorf("Total(%v): %d, want %d", c.l, got, c.want)
		}
	}
}

// Promise 3.2, Total, where all sizes together run past 2^62, and past every int.
func TestTotalIsHeldDown(t *testing.T) {
	l := slices.Repeat(list(0, behind), 1<<23+1)
	for _, c := range []struct{ n, want int }{
		{1<<22 - 1, most - behind}, {1 << 22, most}, {1<<22 + 1, most}, {1 << 23, most}, {1<<23 + 1, most},
	} {
		if got := span.Total(l[:c.n]); got != c.want {
			t.Errorf("Total of %d spans: %d, want %d", c.n, got, c.want)
		}
	}
	l[0] = sp(1, behind-1)
	if got := span.Total(l[:1<<22]); got != most-1 {
		t.Errorf("Total of one word less: %d, want %d", got, most-1)
	}
}

// Promise 3.3, Join.
func TestJoin(t *testing.T) {
	same(t, "Join of none", span.Join(nil), nil)
	same(t, "Join of none", span.Join([]api.Span{}), nil)
	same(t, "Join of the example", span.Join(list(0, 2, 2, 1, 5, 1)), list(0, 3, 5, 1))
	same(t, "Join of no order", span.Join(list(5, 1, 2, 1, 0, 2)), list(0, 3, 5, 1))
	same(t, "Join of one in another", span.Join(list(0, 10, 2, 1, 5, 1, 10, 1)), list(0, 11))
	same(t, "Join behind one in another", span.Join(list(0, 10, 2, 1, 9, 2, 12, 1)), list(0, 11, 12, 1))
	same(t, "Join of alike ones", span.Join(list(3, 2, 3, 2, 3, 2)), list(3, 2))
	same(t, "Join of the ends", span.Join(list(behind-1, 1, 0, 1, 1, behind-3)), list(0, behind-2, behind-1, 1))
	same(t, "Join of all places", span.Join(list(behind/2, behind/2, 0, behind/2)), list(0, behind))
	same(t, "Join of those that may not be", span.Join(mayNot), nil)
	same(t, "Join of those, and of others", span.Join(slices.Concat(mayNot, list(4, 1), mayNot, list(2, 1))), list(2, 1, 4, 1))
	eachList(5, func(l []api.Span) {
		if got := span.Join(l); !slices.Equal(got, slowJoin(l)) {
			t.Errorf("Join(%v): %v, want %v", l, got, slowJoin(l))
		}
	})
}

// Promise 3.3, Gaps.
func TestGaps(t *testing.T) {
	same(t, "Gaps of the example", span.Gaps(sp(0, 6), list(0, 2, 2, 1, 5, 1)), list(3, 2))
	same(t, "Gaps of no order", span.Gaps(sp(0, 6), list(5, 1, 0, 2, 2, 1)), list(3, 2))
	same(t, "Gaps of none", span.Gaps(sp(2, 4), nil), list(2, 4))
	same(t, "Gaps of none", span.Gaps(sp(2, 4), []api.Span{}), list(2, 4))
	same(t, "Gaps of itself", span.Gaps(sp(2, 4), list(2, 4)), nil)
	same(t, "Gaps of a greater one", span.Gaps(sp(2, 4), list(0, 9)), nil)
	same(t, "Gaps of what stands ahead and behind", span.Gaps(sp(4, 3), list(0, 2, 3, 1, 7, 1, 9, 9)), list(4, 3))
	same(t, "Gaps of what runs over the ends", span.Gaps(sp(4, 6), list(0, 5, 9, 5)), list(5, 4))
	same(t, "Gaps around some", span.Gaps(sp(0, 10), list(1, 1, 3, 2, 8, 1)), list(0, 1, 2, 1, 5, 3, 9, 1))
	same(t, "Gaps of all places", span.Gaps(sp(0, behind), list(5, 1, behind-1, 1)), list(0, 5, 6, behind-7))
	same(t, "Gaps of the last place", span.Gaps(sp(behind-2, 2), list(behind-2, 1)), list(behind-1, 1))
	for _, l := range [][]api.Span{mayNot, list(math.MaxInt, math.MaxInt, 3, math.MaxInt, -5, 20, 3, 0, 4, -1)} {
		same(t, "Gaps of those that may not be", span.Gaps(sp(2, 4), l), list(2, 4))
	}
	for _, s := range mayNot {
		for _, l := range [][]api.Span{nil, may, mayNot, list(1, 1), list(7, 1)} {
			same(t, "Gaps of what has no words", span.Gaps(s, l), nil)
		}
	}
}

// Promises 3.3 and 3.4, of each list of small spans, in spans of some places.
func TestGapsOfEachList(t *testing.T) {
	alls := []api.Span{sp(0, 4), sp(1, 3), sp(2, 1), sp(0, 9), sp(3, 4), sp(-1, 4), sp(2, 0)}
	eachList(4, func(l []api.Span) {
		for _, all := range alls {
			got := span.Gaps(all, l)
			if !slices.Equal(got, slowGaps(all, l)) {
				t.Errorf("Gaps(%v, %v): %v, want %v", all, l, got, slowGaps(all, l))
			}
			follows(t, all, l, got)
		}
	})
}

// follows asks that a word is all's just if it is in gaps, or in one of l: of those of l, none that is not.
func follows(t *testing.T, all api.Span, l, gaps []api.Span) {
	t.Helper()
	one := func(l []api.Span, at int) bool {
		return slices.ContainsFunc(l, func(s api.Span) bool { return span.Has(s, at) })
	}
	for at := low; at <= high; at++ {
		if in := one(gaps, at); in && (!span.Has(all, at) || one(l, at)) || !in && span.Has(all, at) && !one(l, at) {
			t.Errorf("Gaps(%v, %v): %v, at %d", all, l, gaps, at)
		}
	}
}

// Promise 3.4, with what Join makes: what is in neither is none of all's.
func TestJoinAndGapsAreAll(t *testing.T) {
	all := sp(0, 7)
	eachList(4, func(l []api.Span) {
		within := slices.DeleteFunc(slices.Clone(l), func(s api.Span) bool { return !span.Within(s, all) })
		same(t, "Join of Gaps and the list", span.Join(slices.Concat(within, span.Gaps(all, within))), []api.Span{all})
		both := slices.Concat(span.Join(within), span.Gaps(all, within))
		if !span.Apart(both) || span.Total(both) != all.Size {
			t.Errorf("Join and Gaps of %v in %v: %v", within, all, both)
		}
	})
}

// R4: what is handed in stays as it is, and what is answered is new memory.
func TestListsAreNotChangedAndNotShared(t *testing.T) {
	for _, l := range [][]api.Span{list(5, 1, 0, 2, 2, 1), list(0, 2, 4, 1, 9, 1), list(7, -1, 3, 2, 3, 2, 1, 9, 0, 0), list(4, 2)} {
		was := slices.Clone(l)
		span.Apart(l)
		span.Total(l)
		for _, told := range [][]api.Span{span.Sort(l), span.Join(l), span.Gaps(sp(0, 20), l)} {
			same(t, "a list that was handed in", l, was)
			for i := range told {
				told[i] = sp(-7, -7)
			}
			same(t, "a list whose answer was changed", l, was)
		}
		full := l[:1]
		span.Join(full)
		span.Gaps(sp(0, 20), full)
		same(t, "what stands behind a list", l, was)
	}
}

// R1, R5: long lists end, and are told the same again.
func TestLongLists(t *testing.T) {
	const n = 1 << 16
	var l []api.Span
	for i := range n {
		l = append(l, sp(3*((i*40503)%n), 2))
	}
	joined, gaps := span.Join(l), span.Gaps(sp(0, 3*n), l)
	if len(joined) != n || len(gaps) != n || !span.Apart(l) || span.Total(l) != 2*n {
		t.Fatalf("%d joined, %d gaps, total %d", len(joined), len(gaps), span.Total(l))
	}
	for i := range n {
		if joined[i] != sp(3*i, 2) || gaps[i] != sp(3*i+2, 1) {
			t.Fatalf("at %d: %v and %v", i, joined[i], gaps[i])
		}
	}
	same(t, "Join again", span.Join(l), joined)
	same(t, "Join of both", span.Join(slices.Concat(gaps, l)), list(0, 3*n))
}
