package walk_test

import (
	"math"
	"slices"
	"testing"

	"triforium/api"
	"triforium/arena"
	"triforium/walk"
)

// The chapters' numbers, in digits: a limit that is changed in api would be told here.
const (
	maxKind   = 31
	maxFields = 4096
	maxRaws   = 4096
	maxCursor = 1048576
	maxAt     = 1099511627776
	maxWords  = 98304
)

const all = ^uint64(0)

func sp(at, size int) api.Span { return api.Span{At: at, Size: size} }

func hd(kind, fields, raws int, mark bool, cursor int) api.Head {
	return api.Head{Kind: kind, Fields: fields, Raws: raws, Mark: mark, Cursor: cursor}
}

func sizeOf(h api.Head) int { return 1 + h.Fields + h.Raws }

func wordOf(h api.Head) uint64 {
	w := 3 + uint64(h.Kind)*8 + uint64(h.Fields)*256 + uint64(h.Raws)*256*65536 + uint64(h.Cursor)*256*65536*65536
	if h.Mark {
		w += 4
	}
	return w
}

// headOf tells the header whose word w is, by the chapter of headers.
func headOf(w uint64) (api.Head, bool) {
	h := hd(int(w/8%32), int(w/256%65536), int(w/256/65536%65536), w/4%2 == 1, int(w/256/65536/65536))
	return h, w%4 == 3 && h.Fields <= maxFields && h.Raws <= maxRaws && h.Cursor <= maxCursor
}

// noHeads are words of no header: values, forwarded headers, other words whose lowest bits are not 3, and such of which a number may not be.
var noHeads = []uint64{
	0, 1, 2, 4, 5, 6, 22, 38, 520, 521, 522, all - 1, all - 2, all - 3, all, 1 << 63, 1<<63 + 1,
	3 + (maxFields+1)<<8, 3 + 65535<<8, 3 + (maxRaws+1)<<24, 3 + 65535<<24, 3 + (maxCursor+1)<<40, 3 + 1<<63, 7 + (maxFields+1)<<8,
}

// far are ints that are no place of any arena.
var far = []int{
	-1, -2, -3, -7, -8193, -98304, math.MinInt, math.MinInt + 1, math.MinInt + 2, math.MinInt + 3, math.MinInt / 2,
	maxWords, maxWords + 1, 1 << 31, 1<<31 - 1, 1 << 32, 1<<32 + 2, -1 << 32, maxAt, maxAt + 1, 1 << 62, math.MaxInt - 3, math.MaxInt - 2, math.MaxInt - 1, math.MaxInt,
}

// mayNot are spans that may not be; of many the place behind them runs past every int, or is one that a span may have.
var mayNot = []api.Span{
	{}, sp(4, 0), sp(4, -1), sp(4, -4), sp(4, math.MinInt), sp(-1, 1), sp(-1, 8), sp(-4, 12), sp(math.MinInt, 4), sp(math.MinInt, math.MinInt),
	sp(0, maxAt+1), sp(1, maxAt), sp(4, maxAt-3), sp(maxAt, 1), sp(maxAt, 0), sp(maxAt+1, 1), sp(maxAt+5, -1), sp(maxAt+4, -maxAt),
	sp(4, math.MaxInt), sp(math.MaxInt, 4), sp(math.MaxInt, math.MaxInt), sp(math.MaxInt, math.MinInt), sp(math.MinInt, math.MaxInt), sp(-2, math.MinInt), sp(math.MinInt+4, math.MinInt),
}

// told is what a walk is: its objects and their places, where it ends, and the error there.
type told struct {
	places []int
	heads  []api.Head
	stop   int
	err    api.Errno
}

// slow tells the walk of a plain list of words, as the chapter says it; one that is none is an arena that is none.
func slow(l []uint64, none bool, s api.Span, top int) told {
	if s.At < 0 || s.At > maxAt || s.Size < 1 || s.Size > maxAt || s.At+s.Size > maxAt || top < s.At || top > s.At+s.Size {
		return told{err: api.ErrArg}
	}
	r := told{stop: s.At}
	for r.stop < top {
		if none {
			r.err = api.ErrState
			return r
		}
		if r.stop >= len(l) {
			r.err = api.ErrPlace
			return r
		}
		h, ok := headOf(l[r.stop])
		if !ok {
			r.err = api.ErrTag
			return r
		}
		if behind := r.stop + sizeOf(h); behind > len(l) || behind > top {
			r.err = api.ErrPlace
			return r
		}
		r.places = append(r.places, r.stop)
		r.heads = append(r.heads, h)
		r.stop += sizeOf(h)
	}
	return r
}

func arenaOf(t *testing.T, l []uint64) *arena.Arena {
	t.Helper()
	a, err := arena.Of(l)
	if err != api.OK || a == nil {
		t.Fatalf("no arena of %d words: %d", len(l), err)
	}
	return a
}

// asks holds what the three calls tell against what the walk is, and asks that no word of the arena changes.
func asks(t *testing.T, a *arena.Arena, s api.Span, top int, want told) {
	t.Helper()
	ahead := a.Words()
	if at, err := walk.Stop(a, s, top); at != want.stop || err != want.err {
		t.Fatalf("Stop(%v, %d): %d %d, want %d %d", s, top, at, err, want.stop, want.err)
	}
	l, err := walk.List(a, s, top)
	n, words, fields, errSums := walk.Sums(a, s, top)
	if err != want.err || errSums != want.err {
		t.Fatalf("List and Sums(%v, %d): %d and %d, want %d", s, top, err, errSums, want.err)
	}
	if want.err != api.OK {
		want = told{}
		if l != nil {
			t.Fatalf("List(%v, %d) beside the error %d: %v", s, top, err, l)
		}
	}
	if !slices.Equal(l, want.places) {
		t.Fatalf("List(%v, %d): %v, want %v", s, top, l, want.places)
	}
	sums := [3]int{len(want.heads), 0, 0}
	for _, h := range want.heads {
		sums[1] += sizeOf(h)
		sums[2] += h.Fields
	}
	if got := [3]int{n, words, fields}; got != sums {
		t.Fatalf("Sums(%v, %d): %v, want %v", s, top, got, sums)
	}
	if !slices.Equal(a.Words(), ahead) {
		t.Fatalf("the walk of %v up to %d changed the arena", s, top)
	}
}

// look asks the walk of an arena of the words l, and answers what it is.
func look(t *testing.T, l []uint64, s api.Span, top int) told {
	t.Helper()
	want := slow(l, false, s, top)
	asks(t, arenaOf(t, l), s, top, want)
	return want
}

// errs asks that the walk errs at the place at, with the error err.
func errs(t *testing.T, l []uint64, s api.Span, top, at int, err api.Errno) {
	t.Helper()
	if got := look(t, l, s, top); got.stop != at || got.err != err {
		t.Fatalf("the walk of %v up to %d of %d words: %d %d, want %d %d", s, top, len(l), got.stop, got.err, at, err)
	}
}

// goes asks that the walk gets to top, and meets objects at these places.
func goes(t *testing.T, l []uint64, s api.Span, top int, places ...int) {
	t.Helper()
	if got := look(t, l, s, top); got.stop != top || got.err != api.OK || !slices.Equal(got.places, places) {
		t.Fatalf("the walk of %v up to %d: %v %d %d, want %v", s, top, got.places, got.stop, got.err, places)
	}
}

// rowOf is n words that are no header's, then the objects of these headers, one behind the other, and n more words that are none.
func rowOf(n int, heads ...api.Head) []uint64 {
	l := slices.Repeat([]uint64{all}, n)
	for i, h := range heads {
		l = append(l, wordOf(h))
		for j := range h.Fields {
			l = append(l, uint64(4*(i+j)+1))
		}
		l = append(l, slices.Repeat([]uint64{all}, h.Raws)...)
	}
	return append(l, slices.Repeat([]uint64{all}, n)...)
}

// nones are arenas that are none.
func nones() []*arena.Arena {
	return []*arena.Arena{nil, {}, new(arena.Arena)}
}

// The chapter's example, and what else can be asked of these objects.
func TestExamples(t *testing.T) {
	l := rowOf(4, hd(1, 2, 0, false, 0), hd(2, 0, 1, false, 0))
	goes(t, l, sp(4, 5), 9, 4, 7)
	goes(t, l, sp(4, 8), 9, 4, 7)
	goes(t, l, sp(4, 8), 7, 4)
	a := arenaOf(t, l)
	if n, words, fields, err := walk.Sums(a, sp(4, 8), 9); n != 2 || words != 5 || fields != 2 || err != api.OK {
		t.Errorf("Sums: %d %d %d %d, want 2 5 2 0", n, words, fields, err)
	}
	for _, c := range []struct {
		top, at int
		err     api.Errno
	}{{4, 4, api.OK}, {5, 4, api.ErrPlace}, {6, 4, api.ErrPlace}, {7, 7, api.OK}, {8, 7, api.ErrPlace}, {9, 9, api.OK}, {10, 9, api.ErrTag}, {12, 9, api.ErrTag}, {13, 0, api.ErrArg}, {3, 0, api.ErrArg}} {
		if at, err := walk.Stop(a, sp(4, 8), c.top); at != c.at || err != c.err {
			t.Errorf("Stop up to %d: %d %d, want %d %d", c.top, at, err, c.at, c.err)
		}
	}
}

// Promise 9.1: a span that may not be is told ahead of all else, also where its words would be objects, and where the arena is none.
func TestSpansThatMayNotBe(t *testing.T) {
	l := slices.Repeat([]uint64{3}, 20)
	for _, s := range mayNot {
		for _, top := range append([]int{0, 1, 3, 4, 5, 8, 12, s.At, s.At + 1, s.At + s.Size, s.At + s.Size - 1}, far...) {
			if got := look(t, l, s, top); got.err != api.ErrArg || got.stop != 0 {
				t.Fatalf("the walk of %v up to %d: %d %d, want ErrArg", s, top, got.stop, got.err)
			}
			for _, a := range append(nones(), arenaOf(t, nil), arenaOf(t, noHeads)) {
				asks(t, a, s, top, told{err: api.ErrArg})
			}
		}
	}
}

// Promise 9.1: a top ahead of the span, or above the place behind it, is told ahead of what stands there.
func TestTopsThatAreNone(t *testing.T) {
	l := slices.Repeat([]uint64{3}, 20)
	for _, s := range []api.Span{sp(0, 1), sp(0, 5), sp(3, 1), sp(4, 3), sp(7, 13), sp(19, 1), sp(0, 20), sp(30, 4), sp(0, maxAt), sp(maxAt-1, 1), sp(5, maxAt-5)} {
		for _, top := range []int{s.At - 1, s.At - 2, s.At - s.Size, -s.At - 1, s.At + s.Size + 1, s.At + s.Size + 2, math.MinInt, math.MinInt + s.At, math.MinInt + s.At + s.Size, math.MaxInt, math.MaxInt - 1, maxAt + 1, 1 << 62} {
			if got := look(t, l, s, top); got.err != api.ErrArg || got.stop != 0 {
				t.Fatalf("the walk of %v up to %d: %d %d, want ErrArg", s, top, got.stop, got.err)
			}
			for _, a := range append(nones(), arenaOf(t, nil), arenaOf(t, noHeads)) {
				asks(t, a, s, top, told{err: api.ErrArg})
			}
		}
	}
}

// Promise 9.1: up to its At a walk meets nothing, whatever stands there, and be there no such place, or no arena.
func TestWalksOfNoObject(t *testing.T) {
	for _, s := range []api.Span{sp(0, 1), sp(4, 3), sp(9, 1), sp(10, 1), sp(11, 7), sp(0, maxAt), sp(5, maxAt-5), sp(maxAt-1, 1)} {
		for _, l := range [][]uint64{nil, slices.Repeat([]uint64{3}, 10), slices.Repeat([]uint64{all}, 10), slices.Repeat([]uint64{3 + 4096<<8}, 10)} {
			goes(t, l, s, s.At)
		}
		for _, a := range nones() {
			asks(t, a, s, s.At, told{stop: s.At})
		}
	}
}

// Promise 9.1: an arena that is none is told at the first place.
func TestNoArena(t *testing.T) {
	for _, a := range nones() {
		for _, s := range []api.Span{sp(0, 1), sp(4, 3), sp(98303, 2), sp(0, maxAt), sp(maxAt-1, 1)} {
			for _, top := range []int{s.At + 1, s.At + s.Size} {
				asks(t, a, s, top, told{stop: s.At, err: api.ErrState})
				asks(t, a, s, top, slow(nil, true, s, top))
			}
		}
	}
	errs(t, nil, sp(0, 1), 1, 0, api.ErrPlace)
	errs(t, nil, sp(7, maxAt-7), maxAt, 7, api.ErrPlace)
}

// Promise 9.1: top may be the place behind the span, and each place between, of objects of a word.
func TestEachTopOfEachSpan(t *testing.T) {
	const n = 7
	l := slices.Repeat([]uint64{3}, n)
	for at := range n + 3 {
		for size := 1; size <= n+3; size++ {
			for top := at - 2; top <= at+size+2; top++ {
				switch s := sp(at, size); {
				case top < at || top > at+size:
					errs(t, l, s, top, 0, api.ErrArg)
				case top > n && top > at:
					errs(t, l, s, top, max(at, n), api.ErrPlace)
				default:
					places := []int{}
					for i := at; i < top; i++ {
						places = append(places, i)
					}
					goes(t, l, s, top, places...)
				}
			}
		}
	}
}

// Promise 9.1: a word that is no header's is told with its place: the first one, one between, and the last one.
func TestWordsThatAreNoHeaders(t *testing.T) {
	heads := []api.Head{hd(1, 2, 0, false, 0), hd(2, 0, 1, true, 7), {}, hd(3, 1, 1, false, 0)}
	places := []int{2, 5, 7, 8}
	for i, at := range places {
		for _, w := range noHeads {
			l := rowOf(2, heads...)
			l[at] = w
			errs(t, l, sp(2, 9), 11, at, api.ErrTag)
			errs(t, l, sp(2, 9), at+1, at, api.ErrTag)
			errs(t, l[:at+1], sp(2, 9), 11, at, api.ErrTag)
			goes(t, l, sp(2, 9), at, places[:i]...)
		}
	}
	// Two of them: the first one is told, also if behind it an object goes beyond top.
	l := rowOf(2, heads...)
	l[5], l[7] = 22, 38
	errs(t, l, sp(2, 9), 11, 5, api.ErrTag)
	l[7] = wordOf(hd(0, 9, 0, false, 0))
	errs(t, l, sp(2, 9), 11, 5, api.ErrTag)
	l[5], l[7], l[8] = wordOf(hd(2, 0, 1, true, 7)), wordOf(hd(0, 3, 0, false, 0)), 0
	errs(t, l, sp(2, 9), 11, 11, api.OK)
	errs(t, l, sp(2, 9), 10, 7, api.ErrPlace)
}

// Promise 9.1: an object that goes beyond top is told with its place, by one word or by many, and what stands behind top does not help it.
func TestObjectsThatGoBeyondTop(t *testing.T) {
	for _, h := range []api.Head{hd(1, 1, 0, false, 0), hd(1, 0, 1, false, 0), hd(5, 2, 1, true, 7), hd(0, 0, 4, false, maxCursor), hd(31, 4, 0, false, 1), hd(1, maxFields, 0, false, 0), hd(1, 0, maxRaws, false, 0), hd(1, maxFields, maxRaws, true, maxCursor)} {
		first := hd(2, 1, 1, false, 0)
		l := rowOf(3, first, h, api.Head{})
		behind := 6 + sizeOf(h)
		for _, top := range []int{7, 6 + sizeOf(h)/2, behind - 1} {
			for _, s := range []api.Span{sp(3, top-3), sp(3, behind-3), sp(3, len(l)), sp(3, maxAt-3)} {
				if top > 6 {
					errs(t, l, s, top, 6, api.ErrPlace)
				}
			}
			errs(t, l, sp(6, top-6), top, 6, api.ErrPlace)
		}
		goes(t, l, sp(3, behind-3), behind, 3, 6)
		goes(t, l, sp(3, behind-2), behind+1, 3, 6, behind)
		goes(t, l, sp(6, behind-6), behind, 6)
		goes(t, l[:behind], sp(6, maxAt-6), behind, 6)
	}
	errs(t, rowOf(0, hd(1, 1, 0, false, 0)), sp(0, 1), 1, 0, api.ErrPlace)
}

// Promise 9.1: an object that goes beyond the arena's end is told with its place, though top is far behind; so is the end itself.
func TestTheArenasEnd(t *testing.T) {
	for _, h := range []api.Head{hd(1, 1, 0, false, 0), hd(5, 2, 1, true, 7), hd(1, maxFields, maxRaws, true, maxCursor)} {
		l := rowOf(0, api.Head{}, h)
		for _, n := range []int{2, 1 + sizeOf(h)/2, len(l) - 1} {
			if n < 2 {
				continue
			}
			for _, top := range []int{n, len(l), len(l) + 1, maxAt} {
				errs(t, l[:n], sp(0, maxAt), top, 1, api.ErrPlace)
			}
		}
		for _, top := range []int{len(l) + 1, len(l) + 7, maxAt - 1, maxAt} {
			errs(t, l, sp(0, maxAt), top, len(l), api.ErrPlace)
		}
		goes(t, l, sp(0, maxAt), len(l), 0, 1)
	}
	for _, at := range []int{1, 5, maxWords, maxAt - 1} {
		errs(t, []uint64{3}, sp(at, 1), at+1, at, api.ErrPlace)
		errs(t, []uint64{3}, sp(at, maxAt-at), maxAt, at, api.ErrPlace)
	}
}

// Promise 9.2: headers are told with all that they say; marks and cursors change no size.
func TestHeadersOfAllKinds(t *testing.T) {
	heads := []api.Head{
		{}, {Kind: 1}, {Kind: maxKind}, {Mark: true}, {Cursor: 1}, {Cursor: maxCursor}, {Fields: 1}, {Raws: 1}, hd(7, 2, 3, true, 699050), hd(maxKind, 3, 2, true, maxCursor), hd(0, 0, 5, false, 4096), hd(0, 5, 0, false, 256),
	}
	for _, a := range heads {
		for _, b := range heads {
			l := rowOf(2, a, b)
			goes(t, l, sp(2, len(l)-4), len(l)-2, 2, 2+sizeOf(a))
			n, words, fields, err := walk.Sums(arenaOf(t, l), sp(2, len(l)-4), len(l)-2)
			if n != 2 || words != sizeOf(a)+sizeOf(b) || fields != a.Fields+b.Fields || err != api.OK {
				t.Fatalf("Sums of %v and %v: %d %d %d %d", a, b, n, words, fields, err)
			}
		}
	}
}

// Promise 9.1: what stands in an object, ahead of the span and behind top is not looked at.
func TestWhatIsNotLookedAt(t *testing.T) {
	heads := []api.Head{hd(1, 2, 1, false, 0), hd(2, 1, 2, false, 0)}
	for _, w := range append([]uint64{3, 259, 523, wordOf(hd(1, maxFields, maxRaws, true, 3)), 1 << 24}, noHeads...) {
		l := slices.Repeat([]uint64{w}, 14)
		l[3], l[7] = wordOf(heads[0]), wordOf(heads[1])
		goes(t, l, sp(3, 8), 11, 3, 7)
		goes(t, l, sp(3, 11), 11, 3, 7)
	}
}

// eachRow hands over the lists of up to n headers of small objects.
func eachRow(n int, heads []api.Head, do func(l []api.Head)) {
	do(heads)
	if n == 0 {
		return
	}
	for _, h := range []api.Head{{}, hd(1, 1, 0, false, 0), hd(0, 0, 1, true, 0), hd(2, 1, 1, false, 5), hd(3, 0, 3, false, 0), hd(4, 2, 0, true, 1)} {
		eachRow(n-1, append(slices.Clone(heads), h), do)
	}
}

// Promises 9.1 and 9.2: all rows of up to four small objects, and all tops.
func TestAllSmallRows(t *testing.T) {
	eachRow(4, nil, func(heads []api.Head) {
		l := rowOf(1, heads...)
		for top := 1; top <= len(l); top++ {
			look(t, l, sp(1, len(l)-1), top)
		}
		look(t, l, sp(1, len(l)), len(l)+1)
		look(t, l, sp(0, len(l)), len(l)-1)
	})
}

// Promise 9.3: the words of all objects of a walk that does not err are those from At up to top, each of them once.
func TestEachWordOnce(t *testing.T) {
	eachRow(4, nil, func(heads []api.Head) {
		l := rowOf(2, heads...)
		s, top := sp(2, len(l)), len(l)-2
		a := arenaOf(t, l)
		places, err := walk.List(a, s, top)
		if err != api.OK || len(places) != len(heads) {
			t.Fatalf("List of %v: %v %d", heads, places, err)
		}
		times := make([]int, len(l))
		for i, at := range places {
			if i > 0 && at <= places[i-1] {
				t.Fatalf("List of %v does not rise: %v", heads, places)
			}
			for j := range sizeOf(heads[i]) {
				times[at+j]++
			}
		}
		for at, n := range times {
			if want := at >= s.At && at < top; (n == 1) != want || n > 1 {
				t.Fatalf("the word at %d is %d objects', of %v", at, n, heads)
			}
		}
		if _, words, _, _ := walk.Sums(a, s, top); words != top-s.At {
			t.Fatalf("Sums of %v: %d words, want %d", heads, words, top-s.At)
		}
	})
}

// Promises 9.1 and 9.2: the greatest arena, of the smallest objects and of the greatest ones.
func TestTheGreatestWalks(t *testing.T) {
	l := slices.Repeat([]uint64{3}, maxWords)
	if got := look(t, l, sp(0, maxWords), maxWords); len(got.places) != maxWords || got.stop != maxWords {
		t.Errorf("of objects of one word: %d of them, up to %d", len(got.places), got.stop)
	}
	look(t, l, sp(65536, 32768), maxWords)
	look(t, l, sp(1, maxWords), maxWords+1)
	l[maxWords-1] = 2
	errs(t, l, sp(0, maxWords), maxWords, maxWords-1, api.ErrTag)
	l[maxWords-1] = wordOf(hd(0, 0, 1, false, 0))
	errs(t, l, sp(0, maxWords), maxWords, maxWords-1, api.ErrPlace)
	great := hd(maxKind, maxFields, maxRaws, true, maxCursor)
	l = slices.Repeat([]uint64{all}, maxWords)
	places := []int{}
	for at := 0; at+sizeOf(great) <= maxWords; at += sizeOf(great) {
		l[at] = wordOf(great)
		places = append(places, at)
	}
	top := len(places) * sizeOf(great)
	goes(t, l, sp(0, maxWords), top, places...)
	errs(t, l, sp(0, maxWords), maxWords, top, api.ErrTag)
	errs(t, l, sp(0, maxWords), top-1, top-sizeOf(great), api.ErrPlace)
	if n, words, fields, err := walk.Sums(arenaOf(t, l), sp(0, maxWords), top); n != 11 || words != 90123 || fields != 45056 || err != api.OK {
		t.Errorf("Sums of the greatest: %d %d %d %d", n, words, fields, err)
	}
}

// mixed is n words, most of them headers of small objects, that hang on the number alone.
func mixed(n int, seed uint64) []uint64 {
	l := make([]uint64, n)
	for i := range l {
		seed = seed*6364136223846793005 + 1442695040888963407
		x := seed ^ seed>>29
		l[i] = wordOf(hd(int(x>>8%32), int(x>>16%4), int(x>>24%3), x>>32%2 == 1, int(x>>34%7)))
		if x%16 == 0 {
			l[i] = x
		}
	}
	return l
}

// Promises 9.1 and 9.2: many rows of words, of which the walks meet some objects and err at some place or none.
func TestManyRows(t *testing.T) {
	ended := map[api.Errno]int{}
	for seed := range uint64(400) {
		l := mixed(24, seed)
		for at := range 6 {
			for top := at; top <= 26; top++ {
				ended[look(t, l, sp(at, 27-at), top).err]++
			}
		}
	}
	for _, err := range []api.Errno{api.OK, api.ErrPlace, api.ErrTag} {
		if ended[err] < 1000 {
			t.Errorf("%d walks only ended with %d", ended[err], err)
		}
	}
}

// Promise 9.2, Starts.
func TestStarts(t *testing.T) {
	lists := [][]int{nil, {}, {0}, {4, 7}, {7, 4}, {4, 4}, {5, 9, 2, 7}, {9, 7, 5, 3, 1}, {1, 2, 3, 5, 8, 13}, {-1, 3}, {3, -1}, far, {math.MinInt, 0, math.MaxInt}, {math.MaxInt, 0, math.MinInt}}
	for _, l := range lists {
		for _, at := range append([]int{0, 1, 2, 3, 4, 5, 6, 7, 8, 9, 10, 13}, far...) {
			want := false
			for _, x := range l {
				want = want || x == at
			}
			ahead := slices.Clone(l)
			if got := walk.Starts(l, at); got != want {
				t.Errorf("Starts(%v, %d): %v", l, at, got)
			}
			if !slices.Equal(l, ahead) {
				t.Fatalf("Starts changed its list: %v, want %v", l, ahead)
			}
		}
	}
	places, _ := walk.List(arenaOf(t, slices.Repeat([]uint64{259}, 1000)), sp(0, 1000), 1000)
	for at := -1; at <= 1001; at++ {
		if got, want := walk.Starts(places, at), at >= 0 && at < 1000 && at%2 == 0; got != want {
			t.Errorf("Starts(%d) of 500 objects: %v", at, got)
		}
	}
}

// Rules R4 and R5: what is answered is new memory, and hangs on the arena's words alone as they are now.
func TestSameAgain(t *testing.T) {
	l := rowOf(0, hd(1, 2, 0, false, 0), hd(2, 0, 1, false, 0), api.Head{})
	a, s := arenaOf(t, l), sp(0, 6)
	first, err := walk.List(a, s, 6)
	if err != api.OK || !slices.Equal(first, []int{0, 3, 5}) {
		t.Fatalf("List: %v %d", first, err)
	}
	for i := range first {
		first[i] = -7
	}
	asks(t, a, s, 6, slow(l, false, s, 6))
	second, _ := walk.List(a, s, 6)
	asks(t, a, sp(3, 3), 5, slow(l, false, sp(3, 3), 5))
	if !slices.Equal(second, []int{0, 3, 5}) || !slices.Equal(first, []int{-7, -7, -7}) {
		t.Errorf("the lists share words: %v, %v", first, second)
	}
	for i, w := range []uint64{wordOf(hd(0, 0, 0, false, 0)), 3, 3, 22} {
		if err := a.Write(i, w); err != api.OK {
			t.Fatalf("Write(%d): %d", i, err)
		}
		l[i] = w
		asks(t, a, s, 6, slow(l, false, s, 6))
	}
	if at, err := walk.Stop(a, s, 6); at != 3 || err != api.ErrTag {
		t.Errorf("Stop behind the writes: %d %d, want 3 and ErrTag", at, err)
	}
}
