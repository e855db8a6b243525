package bump_test

import (
	"math"
	"testing"

	"triforium/api"
	"triforium/bump"
)

// behind is the place behind the last one that a span may have, in digits: a limit that is changed in api would be told here.
const behind = 1 << 40

func sp(at, size int) api.Span { return api.Span{At: at, Size: size} }

// may are spans that may be: at both ends of what may be, and between.
var may = []api.Span{
	sp(0, 1), sp(0, 2), sp(4, 3), sp(1, 1), sp(3, 5), sp(1000, 1), sp(7, 40), sp(32768, 32768),
	sp(0, behind), sp(0, behind-1), sp(1, behind-1), sp(behind-1, 1), sp(behind-2, 2), sp(behind-2, 1), sp(behind/2, behind/2),
}

// mayNot are spans that may not be; the sums of some run past every int.
var mayNot = []api.Span{
	{}, sp(5, 0), sp(behind, 0), sp(-1, 0), sp(-1, 1), sp(-1, 5), sp(-5, 10), sp(0, -1), sp(5, -1), sp(5, -5), sp(-3, -3),
	sp(0, behind+1), sp(1, behind), sp(behind, 1), sp(behind-1, 2), sp(behind+1, 1), sp(behind+1, -1), sp(behind/2, behind/2+1),
	sp(math.MaxInt, 1), sp(math.MaxInt, math.MaxInt), sp(1, math.MaxInt), sp(0, math.MaxInt), sp(math.MaxInt, -1), sp(math.MaxInt, math.MinInt),
	sp(math.MinInt, 1), sp(math.MinInt, math.MaxInt), sp(math.MinInt, math.MinInt), sp(0, math.MinInt), sp(-1, math.MaxInt),
}

// tooFew are numbers of words that can't be taken, whatever is left.
var tooFew = []int{0, -1, -2, -7, -behind, math.MinInt + 1, math.MinInt}

func of(t *testing.T, s api.Span) *bump.Bump {
	t.Helper()
	b, err := bump.New(s)
	if err != api.OK || b == nil {
		t.Fatalf("New(%v): %v %d", s, b, err)
	}
	return b
}

// takes asks that n words are taken, the first one at the place at.
func takes(t *testing.T, b *bump.Bump, n, at int) {
	t.Helper()
	if got, err := b.Take(n); err != api.OK || got != at {
		t.Fatalf("Take(%d): %d %d, want %d and OK", n, got, err, at)
	}
}

// refuses asks that n words can't be taken.
func refuses(t *testing.T, b *bump.Bump, n int, want api.Errno) {
	t.Helper()
	if at, err := b.Take(n); err != want || at != 0 {
		t.Fatalf("Take(%d): %d %d, want 0 and %d", n, at, err, want)
	}
}

func backs(t *testing.T, b *bump.Bump, top int, want api.Errno) {
	t.Helper()
	if err := b.Back(top); err != want {
		t.Fatalf("Back(%d): %d, want %d", top, err, want)
	}
}

// stands asks for what b tells, if so many words of s are taken.
func stands(t *testing.T, b *bump.Bump, s api.Span, used int) {
	t.Helper()
	if b.Top() != s.At+used || b.Used() != used || b.Room() != s.Size-used {
		t.Fatalf("of %v with %d taken: Top %d, Used %d, Room %d", s, used, b.Top(), b.Used(), b.Room())
	}
}

// The chapter's example, and what is told between.
func TestExample(t *testing.T) {
	s := sp(4, 3)
	b := of(t, s)
	stands(t, b, s, 0)
	takes(t, b, 2, 4)
	stands(t, b, s, 2)
	refuses(t, b, 2, api.ErrMemory)
	stands(t, b, s, 2)
	takes(t, b, 1, 6)
	stands(t, b, s, 3)
}

// Promises 5.1 and 5.2: of a new bump nothing is taken.
func TestNew(t *testing.T) {
	for _, s := range may {
		stands(t, of(t, s), s, 0)
	}
}

// Promise 5.1, New of what may not be.
func TestNewRefusesSpansThatMayNotBe(t *testing.T) {
	for _, s := range mayNot {
		if b, err := bump.New(s); err != api.ErrArg || b != nil {
			t.Errorf("New(%v): %v %d, want nil and ErrArg", s, b, err)
		}
	}
}

// Promise 5.1, Take: word by word, up to the last one.
func TestTakeOneBehindTheOther(t *testing.T) {
	s := sp(7, 40)
	b := of(t, s)
	for i := 0; i < s.Size; i++ {
		takes(t, b, 1, s.At+i)
		stands(t, b, s, i+1)
	}
	refuses(t, b, 1, api.ErrMemory)
	stands(t, b, s, s.Size)
}

// Promise 5.1, Take: rows of unlike lengths, of which the last one takes all that is left.
func TestTakeRows(t *testing.T) {
	s := sp(100, 21)
	b := of(t, s)
	at := 0
	for _, n := range []int{1, 5, 2, 1, 9, 3} {
		takes(t, b, n, s.At+at)
		at += n
		stands(t, b, s, at)
	}
	refuses(t, b, 1, api.ErrMemory)
}

// Promise 5.1, Take of all words at once, and of one more than there are.
func TestTakeAll(t *testing.T) {
	for _, s := range may {
		b := of(t, s)
		refuses(t, b, s.Size+1, api.ErrMemory)
		stands(t, b, s, 0)
		takes(t, b, s.Size, s.At)
		stands(t, b, s, s.Size)
		refuses(t, b, 1, api.ErrMemory)
		stands(t, b, s, s.Size)
	}
}

// Promise 5.1, Take of more than are left: held against what is left, not against the whole span.
func TestTakeOfMoreThanAreLeft(t *testing.T) {
	s := sp(4, 9)
	for used := 1; used <= s.Size; used++ {
		b := of(t, s)
		takes(t, b, used, s.At)
		left := s.Size - used
		for _, n := range []int{left + 1, left + 2, s.Size, s.Size + 1, s.Size + s.At, behind, behind + 1, math.MaxInt - s.At - used, math.MaxInt - s.At, math.MaxInt - 1, math.MaxInt} {
			refuses(t, b, n, api.ErrMemory)
			stands(t, b, s, used)
		}
		if left > 0 {
			takes(t, b, left, s.At+used)
		}
		stands(t, b, s, s.Size)
	}
}

// Promise 5.1, Take of less than a word: ErrSize, of a full bump, too.
func TestTakeOfNoWord(t *testing.T) {
	s := sp(4, 3)
	for used := 0; used <= s.Size; used++ {
		b := of(t, s)
		if used > 0 {
			takes(t, b, used, s.At)
		}
		for _, n := range tooFew {
			refuses(t, b, n, api.ErrSize)
			stands(t, b, s, used)
		}
	}
}

// Promise 5.2, Back to each place, from each top: what is taken next stands there.
func TestBack(t *testing.T) {
	for _, s := range []api.Span{sp(4, 6), sp(0, 6), sp(behind-6, 6)} {
		for used := 0; used <= s.Size; used++ {
			for kept := 0; kept <= used; kept++ {
				b := of(t, s)
				if used > 0 {
					takes(t, b, used, s.At)
				}
				backs(t, b, s.At+kept, api.OK)
				stands(t, b, s, kept)
				if kept < s.Size {
					takes(t, b, s.Size-kept, s.At+kept)
				}
				stands(t, b, s, s.Size)
			}
		}
	}
}

// Promise 5.2, Back to a place that stands within a row that was taken at once.
func TestBackSplitsARow(t *testing.T) {
	s := sp(10, 8)
	b := of(t, s)
	takes(t, b, 2, 10)
	takes(t, b, 5, 12)
	backs(t, b, 15, api.OK)
	stands(t, b, s, 5)
	takes(t, b, 3, 15)
	stands(t, b, s, 8)
	backs(t, b, 11, api.OK)
	backs(t, b, 11, api.OK)
	stands(t, b, s, 1)
	backs(t, b, 12, api.ErrPlace)
	backs(t, b, 10, api.OK)
	stands(t, b, s, 0)
}

// Promise 5.2, Back to what stands ahead of the span, or behind what is taken: Top is held against, not the span's end.
func TestBackRefusesOtherPlaces(t *testing.T) {
	for _, s := range []api.Span{sp(4, 6), sp(0, 6), sp(behind-6, 6)} {
		for used := 0; used <= s.Size; used++ {
			b := of(t, s)
			if used > 0 {
				takes(t, b, used, s.At)
			}
			for _, top := range []int{
				math.MinInt, math.MinInt + 1, -behind, -1, s.At - s.Size, s.At - 2, s.At - 1,
				s.At + used + 1, s.At + used + 2, s.At + s.Size + 1, s.At + behind, math.MaxInt - 1, math.MaxInt,
			} {
				backs(t, b, top, api.ErrPlace)
				stands(t, b, s, used)
			}
		}
	}
}

// Promises 5.1 and 5.2, of all rows of four calls on a small span, each held against a count of the words that are taken.
func TestRowsOfCalls(t *testing.T) {
	s := sp(2, 4)
	var go4 func(calls []int)
	go4 = func(calls []int) {
		replay(t, s, calls)
		if len(calls) == 4 {
			return
		}
		for call := 0; call < 14; call++ {
			go4(append(calls[:len(calls):len(calls)], call))
		}
	}
	go4(nil)
}

// replay does calls, one behind the other: a Take of -1 to 5 words (0 to 6), or a Back to 1 to 7 (7 to 13).
func replay(t *testing.T, s api.Span, calls []int) {
	t.Helper()
	b := of(t, s)
	used := 0
	for _, call := range calls {
		if call < 7 {
			used += replayTake(t, b, s, used, call-1)
		} else {
			used = replayBack(t, b, s, used, call-6)
		}
		stands(t, b, s, used)
	}
}

// replayTake answers how many words are taken then.
func replayTake(t *testing.T, b *bump.Bump, s api.Span, used, n int) int {
	t.Helper()
	switch {
	case n < 1:
		refuses(t, b, n, api.ErrSize)
	case used+n > s.Size:
		refuses(t, b, n, api.ErrMemory)
	default:
		takes(t, b, n, s.At+used)
		return n
	}
	return 0
}

// replayBack answers how many words stay taken.
func replayBack(t *testing.T, b *bump.Bump, s api.Span, used, top int) int {
	t.Helper()
	if top < s.At || top > s.At+used {
		backs(t, b, top, api.ErrPlace)
		return used
	}
	backs(t, b, top, api.OK)
	return top - s.At
}

// Promise 5.3: ErrState stands ahead of every other error, and such a bump stays what it is.
func TestBumpsThatNewDidNotMake(t *testing.T) {
	refused, _ := bump.New(sp(5, 0))
	var empty bump.Bump
	for what, b := range map[string]*bump.Bump{"nil": nil, "refused": refused, "empty": &empty, "new": new(bump.Bump)} {
		for range 2 {
			for _, n := range append([]int{1, 2, behind, math.MaxInt}, tooFew...) {
				if at, err := b.Take(n); err != api.ErrState || at != 0 {
					t.Errorf("%s: Take(%d): %d %d, want 0 and ErrState", what, n, at, err)
				}
			}
			for _, top := range []int{0, 1, -1, 4, behind, math.MinInt, math.MaxInt} {
				if err := b.Back(top); err != api.ErrState {
					t.Errorf("%s: Back(%d): %d, want ErrState", what, top, err)
				}
			}
			if b.Top() != 0 || b.Used() != 0 || b.Room() != 0 {
				t.Errorf("%s: Top %d, Used %d, Room %d", what, b.Top(), b.Used(), b.Room())
			}
		}
	}
}

// R5: bumps of one span have nothing in common.
func TestBumpsOfOneSpan(t *testing.T) {
	s := sp(4, 5)
	a, b := of(t, s), of(t, s)
	takes(t, a, 3, 4)
	stands(t, b, s, 0)
	takes(t, b, 5, 4)
	stands(t, a, s, 3)
	backs(t, b, 4, api.OK)
	stands(t, a, s, 3)
	takes(t, a, 2, 7)
	stands(t, b, s, 0)
}
