package extent_test

import (
	"math"
	"slices"
	"testing"

	"triforium/api"
	"triforium/extent"
)

const (
	behind = 1 << 40 // the place behind the last one that a span may have, in digits: a limit that is changed in api would be told here
	row    = 8       // how many places the small lists go over
)

func sp(at, size int) api.Span { return api.Span{At: at, Size: size} }

func list(numbers ...int) []api.Span {
	l := []api.Span{}
	for i := 0; i+1 < len(numbers); i += 2 {
		l = append(l, sp(numbers[i], numbers[i+1]))
	}
	return l
}

// may are spans that may be, at the ends and between.
var may = list(0, 1, 0, 2, 3, 5, 1000, 1, 0, behind, 0, behind-1, 1, behind-1, behind-1, 1, behind-2, 2, behind-2, 1, behind/2, behind/2)

// mayNot are spans that may not be: most of those with a great number have a sum that runs past every int, and is small then.
var mayNot = list(
	0, 0, 5, 0, behind, 0, behind+1, 0, -1, 0, 0, -1, 5, -1, 5, -5, behind+1, -1, behind+5, -5, math.MaxInt, -1, math.MaxInt, math.MinInt, 0, math.MinInt,
	-1, 1, -1, 2, -1, 5, -1, behind, -5, 10, -1, math.MaxInt, math.MinInt, 1, math.MinInt, math.MaxInt, math.MinInt, math.MinInt, -1, -1,
	0, behind+1, 1, behind, 2, behind-1, behind, 1, behind-1, 2, behind+1, 1, behind, behind, behind/2, behind/2+1,
	math.MaxInt, 1, math.MaxInt, 2, math.MaxInt, math.MaxInt, 1, math.MaxInt, 2, math.MaxInt, 0, math.MaxInt, math.MaxInt-5, 10,
)

// tooFew are numbers of words that can't be taken, whatever is free.
var tooFew = []int{0, -1, -2, -7, -behind, math.MinInt + 1, math.MinInt}

// slowMay tells by the chapter of spans whether s may be; no sum of it runs past an int.
func slowMay(s api.Span) bool {
	return s.At >= 0 && s.Size >= 1 && s.At <= behind && s.Size <= behind && s.At+s.Size <= behind
}

// slowTake tells what is left, and the place, by the chapter; a list that it answers is its own.
func slowTake(l []api.Span, n int) ([]api.Span, int, api.Errno) {
	if n < 1 {
		return slices.Clone(l), 0, api.ErrSize
	}
	for i, s := range l {
		if !slowMay(s) || s.Size < n {
			continue
		}
		left := slices.Clone(l[:i])
		if s.Size > n {
			left = append(left, sp(s.At+n, s.Size-n))
		}
		return append(left, l[i+1:]...), s.At, api.OK
	}
	return slices.Clone(l), 0, api.ErrMemory
}

// words are the places from 0 on, up to twice the row, that the spans of l have.
func words(l []api.Span) [2 * row]bool {
	var is [2 * row]bool
	for _, s := range l {
		for at := max(s.At, 0); slowMay(s) && at < min(s.At+s.Size, len(is)); at++ {
			is[at] = true
		}
	}
	return is
}

// rows are as few spans, rising, as have just these places.
func rows(is [2 * row]bool) []api.Span {
	l := []api.Span{}
	for at, in := range is {
		switch {
		case !in:
		case at > 0 && is[at-1]:
			l[len(l)-1].Size++
		default:
			l = append(l, sp(at, 1))
		}
	}
	return l
}

// slowGive tells by the places of small spans what is free then.
func slowGive(l []api.Span, s api.Span) ([]api.Span, api.Errno) {
	if !slowMay(s) {
		return l, api.ErrArg
	}
	is, more := words(l), words([]api.Span{s})
	for at := range is {
		if is[at] && more[at] {
			return l, api.ErrTwice
		}
		is[at] = is[at] || more[at]
	}
	return rows(is), api.OK
}

// small are the spans near place 0, those that may not be among them.
func small(top int) []api.Span {
	var l []api.Span
	for at := -1; at < top; at++ {
		for size := -1; size <= 3; size++ {
			l = append(l, sp(at, size))
		}
	}
	return l
}

// eachList hands over the lists of up to three small spans.
func eachList(top int, do func(l []api.Span)) {
	pool := small(top)
	do(nil)
	for _, a := range pool {
		do([]api.Span{a})
		for _, b := range pool {
			do([]api.Span{a, b})
			for _, c := range pool {
				do([]api.Span{a, b, c})
			}
		}
	}
}

// eachRight hands over the lists of free words that are right in a row of places, the first one of which is at.
func eachRight(at int, do func(l []api.Span)) {
	for set := range 1 << row {
		var is [2 * row]bool
		for i := range row {
			is[i] = set>>i&1 == 1
		}
		l := rows(is)
		for i := range l {
			l[i].At += at
		}
		do(l)
	}
}

// takes asks that n words are taken at the place at, and what is left of l.
func takes(t *testing.T, l []api.Span, n, at int, left []api.Span) {
	t.Helper()
	if got, to, err := extent.Take(l, n); err != api.OK || to != at || !slices.Equal(got, left) {
		t.Errorf("Take(%v, %d): %v %d %d, want %v %d and OK", l, n, got, to, err, left, at)
	}
}

// keeps asks that n words can't be taken, and that l is told as it is.
func keeps(t *testing.T, l []api.Span, n int, want api.Errno) {
	t.Helper()
	if got, at, err := extent.Take(l, n); err != want || at != 0 || !slices.Equal(got, l) {
		t.Errorf("Take(%v, %d): %v %d %d, want it as it is, 0 and %d", l, n, got, at, err, want)
	}
}

// gives asks what is free then.
func gives(t *testing.T, l []api.Span, s api.Span, want []api.Span) {
	t.Helper()
	if got, err := extent.Give(l, s); err != api.OK || !slices.Equal(got, want) {
		t.Errorf("Give(%v, %v): %v %d, want %v and OK", l, s, got, err, want)
	}
}

// refuses asks that s can't be given back, and that l is told as it is.
func refuses(t *testing.T, l []api.Span, s api.Span, want api.Errno) {
	t.Helper()
	if got, err := extent.Give(l, s); err != want || !slices.Equal(got, l) {
		t.Errorf("Give(%v, %v): %v %d, want it as it is and %d", l, s, got, err, want)
	}
}

func right(t *testing.T, all api.Span, l []api.Span, want bool) {
	t.Helper()
	if extent.Right(all, l) != want {
		t.Errorf("Right(%v, %v): %v", all, l, !want)
	}
}

func largest(t *testing.T, l []api.Span, want int) {
	t.Helper()
	if got := extent.Largest(l); got != want {
		t.Errorf("Largest(%v): %d, want %d", l, got, want)
	}
}

// The chapter's example.
func TestExample(t *testing.T) {
	takes(t, list(0, 2, 4, 5), 3, 4, list(0, 2, 7, 2))
	gives(t, list(0, 2, 7, 2), sp(2, 2), list(0, 4, 7, 2))
}

// Promise 10.1, Take: the first span of the list that is great enough, not the least one, nor that of the least At.
func TestTakeOfTheFirstOne(t *testing.T) {
	takes(t, list(5, 3), 1, 5, list(6, 2))
	takes(t, list(5, 3), 2, 5, list(7, 1))
	takes(t, list(5, 3), 3, 5, nil)
	takes(t, list(0, 9, 20, 3, 30, 3), 3, 0, list(3, 6, 20, 3, 30, 3))
	takes(t, list(0, 2, 4, 9, 20, 3), 3, 4, list(0, 2, 7, 6, 20, 3))
	takes(t, list(0, 2, 4, 1, 9, 3), 3, 9, list(0, 2, 4, 1))
	takes(t, list(0, 2, 4, 3, 9, 3), 3, 4, list(0, 2, 9, 3))
	takes(t, list(20, 4, 0, 9), 3, 20, list(23, 1, 0, 9))
	takes(t, list(20, 4, 0, 9), 5, 0, list(20, 4, 5, 4))
	takes(t, list(20, 4, 0, 9), 4, 20, list(0, 9))
}

// Promise 10.1, Take: what stands beside the span that is taken stays as it is, be it alike, or meeting, or touching.
func TestTakeOfListsThatAreNotRight(t *testing.T) {
	takes(t, list(4, 3, 4, 3), 2, 4, list(6, 1, 4, 3))
	takes(t, list(4, 3, 4, 3), 3, 4, list(4, 3))
	takes(t, list(4, 3, 5, 4), 4, 5, list(4, 3))
	takes(t, list(0, 2, 2, 2, 4, 2), 1, 0, list(1, 1, 2, 2, 4, 2))
	keeps(t, list(0, 2, 2, 2, 4, 2), 3, api.ErrMemory)
	takes(t, list(9, 2, 3, 1, 5, 4, 0, 3), 3, 5, list(9, 2, 3, 1, 8, 1, 0, 3))
}

// Promise 10.1, Take: at both ends of what a span may have.
func TestTakeAtTheEnds(t *testing.T) {
	takes(t, list(0, behind), 1, 0, list(1, behind-1))
	takes(t, list(0, behind), behind-1, 0, list(behind-1, 1))
	takes(t, list(0, behind), behind, 0, nil)
	takes(t, list(behind-1, 1), 1, behind-1, nil)
	takes(t, list(behind-2, 2), 1, behind-2, list(behind-1, 1))
	takes(t, list(0, 1, behind-2, 2), 2, behind-2, list(0, 1))
	for _, l := range [][]api.Span{nil, {}, list(0, behind), may} {
		for _, n := range []int{behind + 1, 1 << 62, math.MaxInt - 1, math.MaxInt} {
			keeps(t, l, n, api.ErrMemory)
		}
	}
	for _, s := range may {
		keeps(t, []api.Span{s}, s.Size+1, api.ErrMemory)
		takes(t, []api.Span{s}, s.Size, s.At, nil)
	}
}

// Promise 10.1, Take: less than a word is told ahead of what is free.
func TestTakeOfTooFewWords(t *testing.T) {
	for _, n := range tooFew {
		for _, l := range [][]api.Span{nil, {}, list(0, 1), list(3, 5, 20, 1), may, mayNot} {
			keeps(t, l, n, api.ErrSize)
		}
	}
}

// Promise 10.1, Take: a span that may not be is not taken, whatever its numbers, and stays where it stands.
func TestTakeOfSpansThatMayNotBe(t *testing.T) {
	for _, n := range []int{1, 2, 3, 10, behind, behind + 1, math.MaxInt} {
		keeps(t, mayNot, n, api.ErrMemory)
	}
	for _, s := range mayNot {
		for _, n := range []int{1, 2, s.Size, s.Size - 1, -s.Size} {
			if n >= 1 {
				keeps(t, []api.Span{s}, n, api.ErrMemory)
			}
		}
		takes(t, []api.Span{s, sp(7, 2)}, 1, 7, []api.Span{s, sp(8, 1)})
		takes(t, []api.Span{s, sp(7, 2), s}, 2, 7, []api.Span{s, s})
		takes(t, []api.Span{sp(7, 2), s}, 2, 7, []api.Span{s})
	}
}

// Promise 10.1, Take, of each list of small spans.
func TestTakeOfEachList(t *testing.T) {
	eachList(4, func(l []api.Span) {
		for n := -1; n <= 4; n++ {
			left, at, want := slowTake(l, n)
			got, to, err := extent.Take(l, n)
			if err != want || to != at || !slices.Equal(got, left) {
				t.Fatalf("Take(%v, %d): %v %d %d, want %v %d %d", l, n, got, to, err, left, at, want)
			}
		}
	})
}

// Promise 10.1, Give: it is joined with what it touches, on either side, and else stands between.
func TestGive(t *testing.T) {
	gives(t, nil, sp(3, 2), list(3, 2))
	gives(t, list(), sp(0, 1), list(0, 1))
	gives(t, list(0, 2), sp(2, 1), list(0, 3))
	gives(t, list(5, 2), sp(2, 3), list(2, 5))
	gives(t, list(0, 2, 5, 1), sp(2, 3), list(0, 6))
	gives(t, list(0, 2, 5, 1), sp(3, 1), list(0, 2, 3, 1, 5, 1))
	gives(t, list(5, 1, 9, 2), sp(0, 4), list(0, 4, 5, 1, 9, 2))
	gives(t, list(5, 1, 9, 2), sp(12, 1), list(5, 1, 9, 2, 12, 1))
	gives(t, list(5, 1, 9, 2), sp(11, 1), list(5, 1, 9, 3))
}

// Promise 10.1, Give: all of l is joined, not just what is given; spans that may not be have no words.
func TestGiveJoinsAll(t *testing.T) {
	gives(t, list(9, 2, 5, 1), sp(0, 2), list(0, 2, 5, 1, 9, 2))
	gives(t, list(4, 2, 6, 2, 20, 3, 21, 9), sp(0, 1), list(0, 1, 4, 4, 20, 10))
	gives(t, list(4, 2, 4, 2), sp(6, 1), list(4, 3))
	for _, s := range mayNot {
		gives(t, []api.Span{s}, sp(3, 2), list(3, 2))
		gives(t, []api.Span{sp(5, 1), s, sp(0, 2)}, sp(3, 2), list(0, 2, 3, 3))
	}
	gives(t, mayNot, sp(0, behind), list(0, behind))
}

// Promise 10.1, Give, at both ends of what a span may have.
func TestGiveAtTheEnds(t *testing.T) {
	gives(t, nil, sp(0, behind), list(0, behind))
	gives(t, list(0, behind-1), sp(behind-1, 1), list(0, behind))
	gives(t, list(1, behind-1), sp(0, 1), list(0, behind))
	gives(t, list(0, 1), sp(behind-1, 1), list(0, 1, behind-1, 1))
	gives(t, list(0, 5, 6, behind-6), sp(5, 1), list(0, behind))
}

// Promise 10.1, Give of what may not be: told of each list, also of one that has its numbers.
func TestGiveOfSpansThatMayNotBe(t *testing.T) {
	for _, s := range mayNot {
		for _, l := range [][]api.Span{nil, {}, list(9, 2, 5, 1), list(4, 2, 4, 2), list(0, behind), {s}, may, mayNot} {
			refuses(t, l, s, api.ErrArg)
		}
	}
}

// Promise 10.1, Give of what is free already, in part or all of it.
func TestGiveTwice(t *testing.T) {
	for _, s := range may {
		refuses(t, []api.Span{s}, s, api.ErrTwice)
		refuses(t, list(0, behind), s, api.ErrTwice)
		refuses(t, []api.Span{s}, sp(0, behind), api.ErrTwice)
		refuses(t, []api.Span{s}, sp(s.At+s.Size-1, 1), api.ErrTwice)
		refuses(t, []api.Span{s}, sp(s.At, 1), api.ErrTwice)
	}
	l := list(20, 3, 4, 2, 4, 1, 9, 9)
	for _, s := range list(19, 2, 22, 1, 22, 5, 3, 2, 5, 1, 5, 4, 0, 5, 8, 2, 17, 1, 12, 1, 0, 30, 6, 4) {
		refuses(t, l, s, api.ErrTwice)
	}
}

// Promise 10.1, Give, of each list of small spans.
func TestGiveOfEachList(t *testing.T) {
	pool := append(small(6), sp(0, 9), sp(1, 5), sp(-2, 9), sp(4, 7))
	eachList(3, func(l []api.Span) {
		for _, s := range pool {
			free, want := slowGive(l, s)
			if got, err := extent.Give(l, s); err != want || !slices.Equal(got, free) {
				t.Fatalf("Give(%v, %v): %v %d, want %v %d", l, s, got, err, free, want)
			}
		}
	})
}

// Promise 10.2, Right: within all, at both of its ends.
func TestRightIsWithinAll(t *testing.T) {
	all := sp(4, 6)
	for _, l := range [][]api.Span{nil, {}, list(4, 6), list(4, 1), list(9, 1), list(4, 1, 9, 1), list(4, 2, 7, 1, 9, 1), list(5, 4)} {
		right(t, all, l, true)
	}
	for _, l := range [][]api.Span{list(3, 1), list(3, 2), list(3, 7), list(3, 8), list(4, 7), list(9, 2), list(10, 1), list(0, 1), list(20, 2), list(0, 20), list(2, 1, 5, 1), list(5, 1, 9, 2), list(5, 1, 20, 1)} {
		right(t, all, l, false)
	}
	right(t, sp(0, 9), list(0, 2, 4, 5), true)
	right(t, sp(0, 8), list(0, 2, 4, 5), false)
	right(t, sp(0, behind), list(0, 1, behind-1, 1), true)
	right(t, sp(0, behind), list(0, behind), true)
	right(t, sp(1, behind-1), list(0, behind), false)
	right(t, sp(0, behind-1), list(0, 1, behind-1, 1), false)
}

// Promise 10.2, Right: rising, and none meets or touches another one.
func TestRightIsJoined(t *testing.T) {
	all := sp(0, 20)
	right(t, all, list(0, 2, 3, 1, 5, 1), true)
	for _, l := range [][]api.Span{list(3, 1, 0, 2, 5, 1), list(0, 2, 5, 1, 3, 1), list(5, 1, 3, 1, 0, 2)} {
		right(t, all, l, false)
	}
	for _, l := range [][]api.Span{list(0, 2, 2, 1), list(0, 2, 4, 1, 5, 3), list(2, 1, 0, 2), list(0, 10, 10, 10)} {
		right(t, all, l, false)
	}
	for _, l := range [][]api.Span{list(3, 2, 3, 2), list(3, 2, 3, 3), list(3, 4, 4, 1), list(3, 2, 4, 2), list(0, 10, 2, 1, 15, 1), list(0, 20, 19, 1)} {
		right(t, all, l, false)
	}
}

// Promise 10.2, Right: what may not be has no words, and is within nothing; nothing is within an all that may not be.
func TestRightOfSpansThatMayNotBe(t *testing.T) {
	for _, s := range mayNot {
		for _, l := range [][]api.Span{{s}, {s, sp(7, 1)}, {sp(7, 1), s}, {sp(7, 1), s, sp(9, 1)}} {
			right(t, sp(0, behind), l, false)
			right(t, sp(4, 6), l, false)
		}
		right(t, s, nil, true)
		right(t, s, list(), true)
		for _, l := range [][]api.Span{{s}, list(7, 1), list(0, 1), list(0, behind), list(behind-1, 1), may, mayNot} {
			right(t, s, l, false)
		}
	}
}

// Promise 10.2, Right, of each list of small spans: it is its own words, as few spans, rising, and these are all's.
func TestRightOfEachList(t *testing.T) {
	alls := []api.Span{sp(0, 3), sp(1, 3), sp(2, 1), sp(0, 9), sp(0, 5), sp(-1, 4), sp(2, 0)}
	eachList(4, func(l []api.Span) {
		for _, all := range alls {
			is, in := words(l), words([]api.Span{all})
			want := slices.Equal(l, rows(is))
			for at := range is {
				want = want && (!is[at] || in[at])
			}
			right(t, all, l, want)
		}
	})
}

// Promise 10.2, Largest.
func TestLargest(t *testing.T) {
	largest(t, nil, 0)
	largest(t, list(), 0)
	largest(t, list(7, 1), 1)
	largest(t, list(0, 2, 4, 5), 5)
	largest(t, list(4, 5, 0, 2), 5)
	largest(t, list(0, 2, 4, 5, 20, 3), 5)
	largest(t, list(0, 2, 2, 2), 2)
	largest(t, list(3, 4, 3, 4), 4)
	largest(t, list(0, 1, 0, behind, 5, 2), behind)
	largest(t, may, behind)
	largest(t, mayNot, 0)
	for _, s := range mayNot {
		largest(t, []api.Span{s}, 0)
		largest(t, []api.Span{s, sp(9, 2)}, 2)
		largest(t, []api.Span{sp(9, 2), s}, 2)
	}
}

// Promise 10.1 with 10.2: there is room for as many words as the largest one has, and not for one more.
func TestLargestIsWhatCanBeTaken(t *testing.T) {
	eachList(4, func(l []api.Span) {
		n := extent.Largest(l)
		if _, _, err := extent.Take(l, n+1); err != api.ErrMemory {
			t.Errorf("Take(%v, %d): %d, want ErrMemory", l, n+1, err)
		}
		if _, _, err := extent.Take(l, n); n > 0 && err != api.OK {
			t.Errorf("Take(%v, %d): %d, want OK", l, n, err)
		}
	})
}

// Promise 10.3: what is right stays so, and what was taken, given back, makes it as it was.
func TestWhatWasTakenIsGivenBack(t *testing.T) {
	for _, at := range []int{0, 5, behind - row} {
		all := sp(at, row)
		eachRight(at, func(l []api.Span) {
			right(t, all, l, true)
			for n := 1; n <= row; n++ {
				left, to, err := extent.Take(l, n)
				right(t, all, left, true)
				if err == api.OK {
					gives(t, left, sp(to, n), l)
					refuses(t, l, sp(to, n), api.ErrTwice)
				}
			}
		})
	}
}

// Promise 10.3: what is given lies within all, else it is right no more.
func TestWhatIsGivenStaysRight(t *testing.T) {
	const at = 5
	all := sp(at, row)
	eachRight(at, func(l []api.Span) {
		for from := at - 1; from <= at+row; from++ {
			for n := 1; n <= row; n++ {
				s := sp(from, n)
				free, err := extent.Give(l, s)
				within := from >= at && from+n <= at+row
				right(t, all, free, err == api.ErrTwice || within)
			}
		}
	})
}

// Promise 10.3: many rows of words, taken and given back in other orders.
func TestManyTakenAndGivenBack(t *testing.T) {
	all := sp(100, 400)
	free := []api.Span{all}
	var taken []api.Span
	for i := range 1000 {
		n := 1 + i*7%13
		left, at, err := extent.Take(free, n)
		if err == api.OK {
			taken = append(taken, sp(at, n))
		}
		if i%3 == 2 || err != api.OK {
			k := i * 31 % len(taken)
			back, errGive := extent.Give(left, taken[k])
			if errGive != api.OK {
				t.Fatalf("Give(%v, %v): %d", left, taken[k], errGive)
			}
			left, taken = back, slices.Delete(taken, k, k+1)
		}
		free = left
		right(t, all, free, true)
	}
	for _, s := range taken {
		free, _ = extent.Give(free, s)
		refuses(t, free, s, api.ErrTwice)
	}
	if !slices.Equal(free, []api.Span{all}) {
		t.Errorf("all given back: %v, want %v", free, all)
	}
}

// R4: what is handed in stays as it is, behind its end, too; what is answered is new memory, beside an error, too.
func TestListsAreNotChangedAndNotShared(t *testing.T) {
	for _, l := range [][]api.Span{list(9, 2, 5, 1, 0, 2), list(0, 2, 4, 5, 20, 3), list(7, -1, 3, 2, 3, 2, 1, 9, 0, 0), list(4, 2), mayNot} {
		was := slices.Clone(l)
		for _, part := range [][]api.Span{l, l[:1], l[:0]} {
			held := slices.Clone(part)
			var told [][]api.Span
			for _, n := range []int{-1, 0, 1, 2, 3, 5, 9, behind + 1} {
				left, _, _ := extent.Take(part, n)
				told = append(told, left)
			}
			for _, s := range list(30, 2, 11, 1, 3, 1, 2, 2, 4, 1, 0, 0, -1, 4, 0, 50) {
				free, _ := extent.Give(part, s)
				told = append(told, free)
			}
			extent.Right(sp(0, 30), part)
			extent.Largest(part)
			for _, answer := range told {
				spoil(answer)
			}
			if !slices.Equal(part, held) || !slices.Equal(l, was) {
				t.Errorf("the list %v was changed: %v", was, l)
			}
		}
	}
}

// spoil writes into all that a list may reach.
func spoil(l []api.Span) {
	l = l[:cap(l)]
	for i := range l {
		l[i] = sp(-7, -7)
	}
}

// R3: a list that is empty is told alike, be it nil or not.
func TestEmptyLists(t *testing.T) {
	for _, l := range [][]api.Span{nil, {}, list(0, 1)[:0]} {
		keeps(t, l, 1, api.ErrMemory)
		keeps(t, l, 0, api.ErrSize)
		refuses(t, l, sp(0, 0), api.ErrArg)
		gives(t, l, sp(2, 3), list(2, 3))
		right(t, sp(0, 1), l, true)
		largest(t, l, 0)
	}
}

// R1, R5: long lists end, and are told the same again.
func TestLongLists(t *testing.T) {
	const n = 1 << 16
	var l []api.Span
	for i := range n {
		l = append(l, sp(3*i, 2))
	}
	all := sp(0, 3*n)
	l[n-1].Size = 3
	right(t, all, l, true)
	largest(t, l, 3)
	for range 2 {
		left, at, err := extent.Take(l, 3)
		if err != api.OK || at != 3*(n-1) || !slices.Equal(left, l[:n-1]) {
			t.Fatalf("Take of %d: %d left, %d %d", n, len(left), at, err)
		}
		free, err := extent.Give(left, sp(at, 3))
		if err != api.OK || !slices.Equal(free, l) {
			t.Fatalf("Give to %d: %d, %d", len(left), len(free), err)
		}
	}
}
