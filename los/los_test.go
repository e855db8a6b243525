package los_test

import (
	"math"
	"slices"
	"testing"

	"triforium/api"
	"triforium/arena"
	"triforium/los"
)

// The chapters' numbers, in digits: a limit that is changed in api would be told here.
const (
	maxKind   = 31
	maxFields = 4096
	maxRaws   = 4096
	maxCursor = 1048576
	maxAt     = 1099511627776
	maxWords  = 98304
)

func sp(at, size int) api.Span { return api.Span{At: at, Size: size} }

func hd(kind, fields, raws int, mark bool, cursor int) api.Head {
	return api.Head{Kind: kind, Fields: fields, Raws: raws, Mark: mark, Cursor: cursor}
}

// of is a header of an object of n words.
func of(n int) api.Head { return api.Head{Raws: n - 1} }

func sizeOf(h api.Head) int { return 1 + h.Fields + h.Raws }

func wordOf(h api.Head) uint64 {
	w := 3 + uint64(h.Kind)*8 + uint64(h.Fields)*256 + uint64(h.Raws)*256*65536 + uint64(h.Cursor)*256*65536*65536
	if h.Mark {
		w += 4
	}
	return w
}

// headOf tells the header whose word w is, by the chapter of headers.
func headOf(w uint64) (api.Head, bool) {
	h := hd(int(w/8%32), int(w/256%65536), int(w/256/65536%65536), w/4%2 == 1, int(w/256/65536/65536))
	return h, w%4 == 3 && h.Fields <= maxFields && h.Raws <= maxRaws && h.Cursor <= maxCursor
}

// noHeads are words of no header: values, forwarded headers, other words whose lowest bits are not 3, and such of which a number may not be.
var noHeads = []uint64{
	0, 1, 2, 4, 5, 6, 22, 38, 520, 521, 522, math.MaxUint64, math.MaxUint64 - 1, 1 << 63, 1<<63 + 1,
	3 + (maxFields+1)<<8, 3 + 65535<<8, 3 + (maxRaws+1)<<24, 3 + 65535<<24, 3 + (maxCursor+1)<<40, 3 + 1<<63, 7 + (maxFields+1)<<8,
}

// far are ints that are no place of any arena.
var far = []int{
	-1, -2, -3, -98304, math.MinInt, math.MinInt + 1, math.MinInt / 2, 98304, 98305, 1 << 20, 1<<20 + 1,
	1 << 31, 1 << 32, 1<<32 + 2, -1 << 32, maxAt - 1, maxAt, maxAt + 1, 1 << 62, math.MaxInt - 2, math.MaxInt - 1, math.MaxInt,
}

// wrongHeads are headers that may not be, one number of each.
func wrongHeads() []api.Head {
	var l []api.Head
	for _, x := range append(far, maxKind+1, maxFields+1, maxCursor+1, 65535, 65536, 1<<16+1, 1<<24) {
		for _, h := range []api.Head{hd(x, 0, 0, false, 0), hd(0, x, 0, true, 0), hd(1, 1, x, false, 0), hd(0, 2, 0, false, x)} {
			if !mayHead(h) {
				l = append(l, h)
			}
		}
	}
	return l
}

func mayHead(h api.Head) bool {
	in := func(x, most int) bool { return 0 <= x && x <= most }
	return in(h.Kind, maxKind) && in(h.Fields, maxFields) && in(h.Raws, maxRaws) && in(h.Cursor, maxCursor)
}

func maySpan(s api.Span) bool {
	return s.At >= 0 && s.Size >= 1 && s.Size <= maxAt && s.At <= maxAt-s.Size
}

// part is what a large part should have; its methods say what the chapter says, of plain lists: which words are free is gone over word by word.
type part struct {
	words []uint64
	all   api.Span
	table []api.Span
	top   int
}

func (p *part) head(at int) (api.Head, api.Errno) {
	if at < 0 || at >= len(p.words) {
		return api.Head{}, api.ErrPlace
	}
	h, ok := headOf(p.words[at])
	switch {
	case !ok:
		return api.Head{}, api.ErrTag
	case len(p.words[at:]) < sizeOf(h):
		return api.Head{}, api.ErrPlace
	}
	return h, api.OK
}

// free are the words of all that no object has, as few spans.
func (p *part) free() []api.Span {
	if !maySpan(p.all) {
		return nil
	}
	taken := make([]bool, p.all.Size)
	for _, s := range p.table {
		for i := range s.Size {
			taken[s.At-p.all.At+i] = true
		}
	}
	var l []api.Span
	for i, is := range taken {
		switch {
		case is:
		case i > 0 && !taken[i-1]:
			l[len(l)-1].Size++
		default:
			l = append(l, sp(p.all.At+i, 1))
		}
	}
	return l
}

// right tells whether table is one of all.
func (p *part) right() bool {
	behind := p.all.At
	for _, s := range p.table {
		if !maySpan(p.all) || !maySpan(s) || s.At < behind || s.At+s.Size > p.all.At+p.all.Size {
			return false
		}
		behind = s.At + s.Size
	}
	return true
}

// fresh tells the error of New of an arena of words.
func fresh(words []uint64, all api.Span, table, free []api.Span) api.Errno {
	p := &part{words, all, table, 0}
	switch {
	case maySpan(all) && all.At+all.Size > len(words):
		return api.ErrPlace
	case !p.right() || !slices.Equal(p.free(), free):
		return api.ErrForm
	}
	for _, s := range table {
		if h, err := p.head(s.At); err != api.OK || sizeOf(h) != s.Size {
			return api.ErrForm
		}
	}
	return api.OK
}

func (p *part) put(h api.Head) (int, api.Errno) {
	if !mayHead(h) {
		return 0, api.ErrArg
	}
	n := sizeOf(h)
	for _, s := range p.free() {
		if s.Size < n {
			continue
		}
		clear(p.words[s.At : s.At+n])
		p.words[s.At] = wordOf(h)
		p.table = append(p.table, sp(s.At, n))
		slices.SortFunc(p.table, func(a, b api.Span) int { return a.At - b.At })
		return s.At, api.OK
	}
	return 0, api.ErrMemory
}

func (p *part) mark(at int) (bool, api.Errno) {
	for i, s := range p.table {
		if s.At != at {
			continue
		}
		h, err := p.head(at)
		if err != api.OK || h.Mark {
			return false, err
		}
		h.Mark, h.Cursor = true, p.top
		p.words[at], p.top = wordOf(h), i+1
		return true, api.OK
	}
	return false, api.ErrPlace
}

func (p *part) pop() (int, bool) {
	if p.top < 1 || p.top > len(p.table) {
		return 0, false
	}
	at := p.table[p.top-1].At
	h, err := p.head(at)
	if err != api.OK {
		return 0, false
	}
	p.top, h.Cursor = h.Cursor, 0
	p.words[at] = wordOf(h)
	return at, true
}

func (p *part) sweep() ([]api.Span, api.Errno) {
	for _, s := range p.table {
		if _, err := p.head(s.At); err != api.OK {
			return nil, err
		}
	}
	var kept, gone []api.Span
	for _, s := range p.table {
		h, _ := p.head(s.At)
		if !h.Mark {
			gone = append(gone, s)
			continue
		}
		h.Mark, h.Cursor = false, 0
		p.words[s.At] = wordOf(h)
		kept = append(kept, s)
	}
	p.table, p.top = kept, 0
	return gone, api.OK
}

// pair is a large part, its arena, and what it should have: each call is asked of both.
type pair struct {
	t *testing.T
	a *arena.Arena
	l *los.Los
	p *part
}

func arenaOf(t *testing.T, words []uint64) *arena.Arena {
	t.Helper()
	a, err := arena.Of(words)
	if err != api.OK || a == nil {
		t.Fatalf("no arena of %d words: %d", len(words), err)
	}
	return a
}

// pairOf has the table's objects in an arena of these words.
func pairOf(t *testing.T, words []uint64, all api.Span, table ...api.Span) *pair {
	t.Helper()
	p := &part{slices.Clone(words), all, slices.Clone(table), 0}
	a := arenaOf(t, words)
	l, err := los.New(a, all, table, p.free())
	if err != api.OK || l == nil {
		t.Fatalf("New(%v, %v, %v) of %#x: %d", all, table, p.free(), words, err)
	}
	x := &pair{t, a, l, p}
	x.same("New")
	return x
}

// empty is a part of n words, ahead of which the arena has two more, and behind it one; no word of it is 0.
func empty(t *testing.T, n int) *pair {
	t.Helper()
	return pairOf(t, slices.Repeat([]uint64{0xABCD}, n+3), sp(2, n))
}

// same asks that the part and its arena have what they should have.
func (x *pair) same(what string) {
	x.t.Helper()
	if l := x.a.Words(); !slices.Equal(l, x.p.words) {
		x.t.Fatalf("%s: the words are %#x, want %#x", what, l, x.p.words)
	}
	if l := x.l.Table(); !slices.Equal(l, x.p.table) {
		x.t.Fatalf("%s: Table is %v, want %v", what, l, x.p.table)
	}
	if l := x.l.Free(); !slices.Equal(l, x.p.free()) {
		x.t.Fatalf("%s: Free is %v, want %v", what, l, x.p.free())
	}
}

func (x *pair) put(h api.Head) (int, api.Errno) {
	x.t.Helper()
	want, wantErr := x.p.put(h)
	got, err := x.l.Put(h)
	if got != want || err != wantErr {
		x.t.Fatalf("Put(%v): %d %d, want %d %d", h, got, err, want, wantErr)
	}
	x.same("Put")
	return got, err
}

func (x *pair) mark(at int) (bool, api.Errno) {
	x.t.Helper()
	want, wantErr := x.p.mark(at)
	got, err := x.l.Mark(at)
	if got != want || err != wantErr {
		x.t.Fatalf("Mark(%d): %t %d, want %t %d", at, got, err, want, wantErr)
	}
	x.same("Mark")
	return got, err
}

func (x *pair) pop() (int, bool) {
	x.t.Helper()
	want, wantOk := x.p.pop()
	got, ok := x.l.Pop()
	if got != want || ok != wantOk {
		x.t.Fatalf("Pop: %d %t, want %d %t", got, ok, want, wantOk)
	}
	x.same("Pop")
	return got, ok
}

func (x *pair) sweep() ([]api.Span, api.Errno) {
	x.t.Helper()
	want, wantErr := x.p.sweep()
	got, err := x.l.Sweep()
	if !slices.Equal(got, want) || err != wantErr || err != api.OK && got != nil {
		x.t.Fatalf("Sweep: %v %d, want %v %d", got, err, want, wantErr)
	}
	x.same("Sweep")
	return got, err
}

// write is what others may do to the arena.
func (x *pair) write(at int, w uint64) {
	x.t.Helper()
	if err := x.a.Write(at, w); err != api.OK {
		x.t.Fatalf("Write(%d): %d", at, err)
	}
	x.p.words[at] = w
	x.same("Write")
}

func (x *pair) puts(h api.Head, want int) {
	x.t.Helper()
	if at, err := x.put(h); at != want || err != api.OK {
		x.t.Fatalf("Put(%v): %d %d, want %d", h, at, err, want)
	}
}

func (x *pair) refusesPut(h api.Head, want api.Errno) {
	x.t.Helper()
	if at, err := x.put(h); at != 0 || err != want {
		x.t.Fatalf("Put(%v): %d %d, want the error %d", h, at, err, want)
	}
}

func (x *pair) marks(at int, want bool) {
	x.t.Helper()
	if is, err := x.mark(at); is != want || err != api.OK {
		x.t.Fatalf("Mark(%d): %t %d, want %t", at, is, err, want)
	}
}

func (x *pair) refusesMark(at int, want api.Errno) {
	x.t.Helper()
	if is, err := x.mark(at); is || err != want {
		x.t.Fatalf("Mark(%d): %t %d, want the error %d", at, is, err, want)
	}
}

func (x *pair) pops(want ...int) {
	x.t.Helper()
	for _, place := range want {
		if at, ok := x.pop(); at != place || !ok {
			x.t.Fatalf("Pop: %d %t, want %d", at, ok, place)
		}
	}
}

func (x *pair) popsNone() {
	x.t.Helper()
	if at, ok := x.pop(); at != 0 || ok {
		x.t.Fatalf("Pop: %d %t, want none", at, ok)
	}
}

func (x *pair) sweeps(want ...api.Span) {
	x.t.Helper()
	if l, err := x.sweep(); !slices.Equal(l, want) || err != api.OK {
		x.t.Fatalf("Sweep: %v %d, want %v", l, err, want)
	}
}

func (x *pair) refusesSweep(want api.Errno) {
	x.t.Helper()
	if l, err := x.sweep(); l != nil || err != want {
		x.t.Fatalf("Sweep: %v %d, want the error %d", l, err, want)
	}
}

// Promises 13.1 to 13.5: the chapter's example.
func TestExample(t *testing.T) {
	x := empty(t, 10)
	x.puts(of(3), 2)
	x.puts(of(4), 5)
	x.marks(5, true)
	x.sweeps(sp(2, 3))
	if l := x.l.Free(); !slices.Equal(l, []api.Span{sp(2, 3), sp(9, 3)}) {
		t.Fatalf("Free: %v", l)
	}
	if l := x.l.Table(); !slices.Equal(l, []api.Span{sp(5, 4)}) {
		t.Fatalf("Table: %v", l)
	}
}

// refusesNew asks New of an arena of words that may not be made a part of, and that it leaves them.
func refusesNew(t *testing.T, words []uint64, all api.Span, table, free []api.Span, want api.Errno) {
	t.Helper()
	if err := fresh(words, all, table, free); err != want {
		t.Fatalf("the test's own New(%v, %v, %v) of %#x: %d, want %d", all, table, free, words, err, want)
	}
	a := arenaOf(t, words)
	l, err := los.New(a, all, table, free)
	if l != nil || err != want {
		t.Fatalf("New(%v, %v, %v) of %#x: %v %d, want the error %d", all, table, free, words, l, err, want)
	}
	if !slices.Equal(a.Words(), words) {
		t.Fatalf("New(%v, %v, %v) changed the words: %#x, want %#x", all, table, free, a.Words(), words)
	}
}

// Promise 13.1: an arena that is none is told ahead of all else; one of no words is one.
func TestNewOfNoArena(t *testing.T) {
	for _, a := range []*arena.Arena{nil, {}, new(arena.Arena)} {
		for _, all := range []api.Span{{}, sp(0, 1), sp(0, 0), sp(-1, 2), sp(5, maxAt), sp(0, maxWords), sp(math.MinInt, math.MaxInt)} {
			for _, l := range [][]api.Span{nil, {}, {sp(0, 1)}, {sp(-1, 0)}} {
				if got, err := los.New(a, all, l, nil); got != nil || err != api.ErrState {
					t.Fatalf("New of no arena, %v, %v: %v %d", all, l, got, err)
				}
				if got, err := los.New(a, all, nil, l); got != nil || err != api.ErrState {
					t.Fatalf("New of no arena, %v, free %v: %v %d", all, l, got, err)
				}
			}
		}
	}
	pairOf(t, nil, api.Span{}).refusesPut(of(1), api.ErrMemory)
	refusesNew(t, nil, sp(0, 1), nil, []api.Span{sp(0, 1)}, api.ErrPlace)
	none, _ := arena.New(0)
	if l, err := los.New(none, api.Span{}, nil, nil); l == nil || err != api.OK {
		t.Fatalf("New of no words: %v %d", l, err)
	}
}

// Promise 13.1: just an end behind the arena's is told, ahead of a wrong table and of wrong free words.
func TestNewBeyondTheEnd(t *testing.T) {
	words := slices.Repeat([]uint64{3}, 5)
	for at := range 8 {
		for size := 1; size <= 8; size++ {
			all := sp(at, size)
			if at+size <= 5 {
				pairOf(t, words, all).puts(of(size), at)
				refusesNew(t, words, all, nil, nil, api.ErrForm)
				continue
			}
			refusesNew(t, words, all, nil, []api.Span{all}, api.ErrPlace)
			refusesNew(t, words, all, nil, nil, api.ErrPlace)
			refusesNew(t, words, all, []api.Span{sp(-1, 1)}, nil, api.ErrPlace)
			refusesNew(t, words, all, []api.Span{sp(at, 1)}, []api.Span{all}, api.ErrPlace)
		}
	}
	for _, all := range []api.Span{sp(0, maxAt), sp(maxAt-1, 1), sp(maxWords, 1), sp(0, maxWords), sp(5, maxAt-5), sp(1<<32, 1), sp(0, 1<<32), sp(1<<32, 5)} {
		refusesNew(t, words, all, nil, []api.Span{all}, api.ErrPlace)
	}
}

// Promise 13.1: of an all that may not be just no object and no free word are right, wherever it goes.
func TestNewOfAnAllThatMayNotBe(t *testing.T) {
	words := slices.Repeat([]uint64{3}, 5)
	for _, all := range []api.Span{
		{}, sp(0, -1), sp(-1, 1), sp(-1, 3), sp(3, 0), sp(5, 0), sp(6, 0), sp(9, -5), sp(1, maxAt), sp(maxAt, 1), sp(0, maxAt+1), sp(maxAt, 0),
		sp(math.MaxInt, math.MaxInt), sp(math.MinInt, math.MinInt), sp(math.MaxInt, 1), sp(1, math.MaxInt), sp(math.MinInt, 1), sp(0, math.MinInt), sp(math.MinInt, math.MaxInt),
	} {
		x := pairOf(t, words, all)
		x.refusesPut(of(1), api.ErrMemory)
		x.refusesMark(0, api.ErrPlace)
		x.popsNone()
		x.sweeps()
		for _, s := range []api.Span{all, sp(0, 1), sp(1, 1), sp(0, 5), {}} {
			refusesNew(t, words, all, []api.Span{s}, nil, api.ErrForm)
			refusesNew(t, words, all, nil, []api.Span{s}, api.ErrForm)
			refusesNew(t, words, all, []api.Span{s}, []api.Span{s}, api.ErrForm)
		}
	}
}

// Promise 13.1: tables and free words that are not right, of objects that all stand there.
func TestNewOfWhatIsNotRight(t *testing.T) {
	// Objects of 2, 1, 1 and 3 words from 1 on; where the second and the third one stand one of 2 words could be, too.
	words := []uint64{3, wordOf(of(2)), 9, 3, 3, wordOf(of(3)), 9, 9, 3, 3}
	all := sp(1, 8)
	whole := []api.Span{sp(1, 2), sp(3, 1), sp(4, 1), sp(5, 3)}
	pairOf(t, words, all, whole...)
	pairOf(t, words, all, whole[1:3]...)
	pairOf(t, words, all)
	last := []api.Span{sp(8, 1)}
	for _, l := range []struct{ table, free []api.Span }{
		{whole, nil},
		{whole, []api.Span{sp(8, 2)}},
		{whole, []api.Span{sp(8, 0)}},
		{whole, []api.Span{sp(7, 2)}},
		{whole, []api.Span{sp(9, 1)}},
		{whole, []api.Span{sp(0, 1), sp(8, 1)}},
		{whole, []api.Span{sp(8, 1), sp(8, 1)}},
		{whole, []api.Span{sp(8, 1), {}}},
		{whole[:3], last},
		{whole[1:], last},
		{whole[:3], []api.Span{sp(5, 3), sp(8, 1)}},
		{whole[:3], []api.Span{sp(5, 2), sp(7, 2)}},
		{whole[1:3], []api.Span{sp(5, 4), sp(1, 2)}},
		{[]api.Span{sp(1, 2), sp(4, 1), sp(3, 1), sp(5, 3)}, last},
		{[]api.Span{sp(1, 2), sp(3, 1), sp(3, 1), sp(4, 1), sp(5, 3)}, last},
		{[]api.Span{sp(0, 1), sp(1, 2), sp(3, 1), sp(4, 1), sp(5, 3)}, last},
		{append(slices.Clone(whole), sp(9, 1)), last},
		{append(slices.Clone(whole), sp(8, 0)), last},
		{append(slices.Clone(whole), api.Span{}), last},
		{[]api.Span{all}, []api.Span{all}},
		{nil, nil},
	} {
		refusesNew(t, words, all, l.table, l.free, api.ErrForm)
	}
}

// Promise 13.1: at the beginning of each span of the table a header stands, and its object has just the span's words.
func TestNewOfObjectsThatAreNone(t *testing.T) {
	good := []uint64{wordOf(of(2)), 0, wordOf(hd(1, 1, 0, false, 0)), 0, wordOf(hd(2, 0, 1, true, 5)), 0}
	table := []api.Span{sp(0, 2), sp(2, 2), sp(4, 2)}
	pairOf(t, good, sp(0, 6), table...)
	others := []api.Head{{}, hd(0, 1, 1, false, 0), hd(0, 2, 0, false, 0), of(3), of(4), hd(0, maxFields, 0, false, 0), hd(0, 0, maxRaws, false, 0), hd(0, maxFields, maxRaws, false, 0)}
	for i := range table {
		bad := slices.Clone(noHeads)
		for _, h := range others {
			bad = append(bad, wordOf(h))
		}
		for _, w := range bad {
			words := slices.Clone(good)
			words[2*i] = w
			refusesNew(t, words, sp(0, 6), table, nil, api.ErrForm)
			// What stands where no object of the table begins is not asked.
			words = slices.Clone(good)
			words[2*i+1] = w
			pairOf(t, words, sp(0, 6), table...)
			rest := slices.Delete(slices.Clone(table), i, i+1)
			words[2*i] = w
			pairOf(t, words, sp(0, 6), rest...)
		}
	}
	// The object goes beyond the arena's end, and the span with it: the end is told.
	refusesNew(t, []uint64{3, wordOf(of(3)), 0}, sp(1, 3), []api.Span{sp(1, 3)}, nil, api.ErrPlace)
	refusesNew(t, []uint64{3, wordOf(of(3)), 0}, sp(1, 2), []api.Span{sp(1, 2)}, nil, api.ErrForm)
	refusesNew(t, []uint64{3, wordOf(of(3)), 0}, sp(1, 2), []api.Span{sp(1, 1)}, []api.Span{sp(2, 1)}, api.ErrForm)
}

// Promise 13.1: nothing was marked, so that the list is empty; whatever the headers say, they stay as they are.
func TestNewOfMarkedObjects(t *testing.T) {
	words := []uint64{wordOf(hd(1, 0, 0, true, 2)), wordOf(hd(2, 0, 0, true, 1)), wordOf(hd(3, 0, 0, false, 1)), wordOf(hd(4, 0, 0, false, maxCursor))}
	table := []api.Span{sp(0, 1), sp(1, 1), sp(2, 1), sp(3, 1)}
	x := pairOf(t, words, sp(0, 4), table...)
	x.popsNone()
	x.marks(0, false)
	x.marks(1, false)
	x.popsNone()
	x.marks(2, true)
	x.marks(3, true)
	x.pops(3, 2)
	x.popsNone()
	x.sweeps()
	x.marks(1, true)
	x.sweeps(sp(0, 1), sp(2, 1), sp(3, 1))

	// Marked headers keep their objects in the next sweep, be they on the list or not.
	x = pairOf(t, words, sp(0, 4), table...)
	x.sweeps(sp(2, 1), sp(3, 1))
	x.popsNone()
	x.sweeps(sp(0, 1), sp(1, 1))
}

// Promise 13.1: all tables of one, two and three small spans, over all words of four, and what they leave free.
func TestAllSmallTables(t *testing.T) {
	words := []uint64{wordOf(of(1)), wordOf(of(2)), wordOf(of(1)), wordOf(of(2)), 0}
	var spans []api.Span
	for at := range 6 {
		for size := range 3 {
			spans = append(spans, sp(at-1, size))
		}
	}
	good := 0
	try := func(table []api.Span) {
		p := &part{words, sp(0, 5), table, 0}
		var free []api.Span
		if p.right() {
			free = p.free()
		}
		if fresh(words, p.all, table, free) == api.OK {
			pairOf(t, words, p.all, table...)
			good++
			return
		}
		refusesNew(t, words, p.all, table, free, api.ErrForm)
	}
	for _, a := range spans {
		try([]api.Span{a})
		for _, b := range spans {
			try([]api.Span{a, b})
			for _, c := range spans {
				try([]api.Span{a, b, c})
			}
		}
	}
	if good != 11 {
		t.Fatalf("%d tables are right", good)
	}
}

// Promise 13.2: a header that may not be is told ahead of a want of room.
func TestPutOfWrongHeaders(t *testing.T) {
	for _, h := range wrongHeads() {
		empty(t, 1).refusesPut(h, api.ErrArg)
		pairOf(t, []uint64{5, 5}, sp(2, 0)).refusesPut(h, api.ErrArg)
	}
	x := empty(t, 2)
	x.refusesPut(of(3), api.ErrMemory)
	x.refusesPut(hd(maxKind, 2, 0, true, maxCursor), api.ErrMemory)
	x.refusesPut(hd(0, maxFields, maxRaws, false, 0), api.ErrMemory)
	x.puts(of(2), 2)
	x.refusesPut(of(1), api.ErrMemory)
	x.refusesPut(hd(0, 0, maxRaws+1, false, 0), api.ErrArg)
}

// Promise 13.2: the header's word is h's, all of it; the fields are nil and the raw words 0, whatever stood there, and nothing else changes.
func TestPutWritesAllOfTheObject(t *testing.T) {
	for _, h := range []api.Head{{}, hd(maxKind, 0, 0, false, 0), hd(0, 3, 0, false, 0), hd(5, 0, 3, false, 0), hd(5, 1, 2, true, 0), hd(1, 1, 1, false, 7), hd(maxKind, 2, 2, true, maxCursor)} {
		x := empty(t, 6)
		x.puts(h, 2)
		words := slices.Repeat([]uint64{0xABCD}, 9)
		words[2] = wordOf(h)
		for i := 1; i < sizeOf(h); i++ {
			words[2+i] = 0
		}
		if l := x.a.Words(); !slices.Equal(l, words) {
			t.Fatalf("behind Put of %v: %#x, want %#x", h, l, words)
		}
		if l := x.l.Table(); !slices.Equal(l, []api.Span{sp(2, sizeOf(h))}) {
			t.Fatalf("behind Put of %v: Table is %v", h, l)
		}
	}
	x := empty(t, 1+maxFields+maxRaws)
	x.puts(hd(1, maxFields, maxRaws, false, 0), 2)
	x.refusesPut(of(1), api.ErrMemory)
	x = empty(t, maxFields+maxRaws)
	x.refusesPut(hd(1, maxFields, maxRaws, false, 0), api.ErrMemory)
	x.puts(hd(1, maxFields, maxRaws-1, false, 0), 2)
}

// Promise 13.2: a header that is marked keeps its object in the next sweep, and is not marked a second time; it is on no list.
func TestPutOfMarkedHeaders(t *testing.T) {
	x := empty(t, 6)
	x.puts(hd(1, 1, 0, true, 3), 2)
	x.puts(hd(1, 1, 0, false, 2), 4)
	x.popsNone()
	x.marks(2, false)
	x.marks(4, true)
	x.pops(4)
	x.popsNone()
	x.sweeps()
	x.sweeps(sp(2, 2), sp(4, 2))
}

// Promise 13.2: the first free span that is great enough is taken, wherever the table's objects stand.
func TestPutTakesTheFirstFreeWords(t *testing.T) {
	// Free are 1, 2, 3, 1 and 4 words, between objects of 1.
	words := slices.Repeat([]uint64{3}, 16)
	table := []api.Span{sp(1, 1), sp(4, 1), sp(8, 1), sp(10, 1), sp(15, 1)}
	for _, c := range []struct{ n, at int }{{1, 0}, {2, 2}, {3, 5}, {4, 11}, {5, -1}, {6, -1}} {
		x := pairOf(t, words, sp(0, 16), table...)
		if c.at < 0 {
			x.refusesPut(of(c.n), api.ErrMemory)
			continue
		}
		x.puts(of(c.n), c.at)
	}
	x := pairOf(t, words, sp(0, 16), table...)
	x.puts(of(2), 2)
	x.puts(of(2), 5)
	x.puts(of(2), 11)
	x.puts(of(2), 13)
	x.refusesPut(of(2), api.ErrMemory)
	x.puts(of(1), 0)
	x.puts(of(1), 7)
	x.puts(of(1), 9)
	x.refusesPut(of(1), api.ErrMemory)
	x.sweeps(x.p.table...)
	x.puts(of(16), 0)
}

// Promise 13.2: the list goes by places in the table: behind a Put it has what stands at its places then.
func TestPutAheadOfTheList(t *testing.T) {
	words := slices.Repeat([]uint64{3}, 6)
	table := []api.Span{sp(2, 1), sp(3, 1), sp(5, 1)}
	for _, c := range []struct {
		marked []int
		all    api.Span
		h      api.Head
		at     int
		list   []int
	}{
		// All places lead to the object ahead.
		{[]int{3, 2}, sp(0, 6), hd(4, 1, 0, false, 0), 0, []int{0}},
		{[]int{2, 3}, sp(0, 6), of(2), 0, []int{2}},
		{[]int{3, 5}, sp(0, 6), of(1), 0, []int{3}},
		{[]int{2, 5, 3}, sp(0, 6), of(2), 0, []int{2}},
		// The cursor that the new object brings along is gone by.
		{[]int{5, 3, 2}, sp(0, 6), hd(0, 0, 0, false, 4), 0, []int{0, 5}},
		{[]int{5, 3, 2}, sp(0, 6), hd(0, 1, 0, true, 3), 0, []int{0, 3, 3}},
		// Just the places behind the new object lead elsewhere.
		{[]int{3, 5, 2}, sp(2, 4), of(1), 4, []int{2, 4}},
		{[]int{5, 3, 2}, sp(2, 4), of(1), 4, []int{2, 3, 4}},
		{[]int{2, 3}, sp(2, 4), of(1), 4, []int{3, 2}},
		{[]int{5}, sp(2, 4), hd(1, 0, 0, false, 4), 4, []int{4, 5}},
		{nil, sp(2, 4), hd(1, 0, 0, true, 4), 4, nil},
	} {
		x := pairOf(t, words, c.all, table...)
		for _, at := range c.marked {
			x.marks(at, true)
		}
		x.puts(c.h, c.at)
		x.pops(c.list...)
		x.popsNone()
	}
}

// Promise 13.3: just a place where a span of the table begins is marked.
func TestMarkOfNoObject(t *testing.T) {
	x := empty(t, 9)
	x.puts(of(3), 2)
	x.puts(of(2), 5)
	x.puts(of(1), 7)
	for at := range 13 {
		if at != 2 && at != 5 && at != 7 {
			x.refusesMark(at, api.ErrPlace)
		}
	}
	for _, at := range far {
		x.refusesMark(at, api.ErrPlace)
	}
	// A header there does not make an object of it.
	x.write(3, 3)
	x.write(8, 3)
	x.write(0, 3)
	x.refusesMark(3, api.ErrPlace)
	x.refusesMark(8, api.ErrPlace)
	x.refusesMark(0, api.ErrPlace)
	x.popsNone()
	x.sweeps(sp(2, 3), sp(5, 2), sp(7, 1))
	x.refusesMark(2, api.ErrPlace)
	x.refusesMark(5, api.ErrPlace)
	x.refusesMark(7, api.ErrPlace)
}

// Promise 13.3: what 8's Head says of an object that others have written over.
func TestMarkOfWrongHeaders(t *testing.T) {
	for _, at := range []int{2, 5, 7} {
		x := empty(t, 6)
		x.puts(of(3), 2)
		x.puts(of(2), 5)
		x.puts(of(1), 7)
		for _, w := range noHeads {
			x.write(at, w)
			x.refusesMark(at, api.ErrTag)
		}
		for _, h := range []api.Head{of(8), of(20), hd(0, maxFields, maxRaws, true, 0), hd(1, maxFields, 0, false, 3)} {
			x.write(at, wordOf(h))
			x.refusesMark(at, api.ErrPlace)
		}
		x.popsNone()
		x.write(at, wordOf(hd(7, 0, 1, true, 9)))
		x.marks(at, false)
		x.write(at, wordOf(hd(7, 0, 1, false, 9)))
		x.marks(at, true)
		x.pops(at)
		x.popsNone()
	}
}

// Promise 13.3: the header keeps all of its numbers but the cursor, and the object all of its words.
func TestMarkKeepsTheObject(t *testing.T) {
	for _, h := range []api.Head{{}, hd(maxKind, 2, 1, false, 0), hd(6, 0, 2, false, maxCursor), hd(1, 3, 0, false, 1)} {
		x := empty(t, 8)
		x.puts(of(2), 2)
		x.puts(h, 4)
		for i := 1; i < sizeOf(h); i++ {
			x.write(4+i, uint64(i)*4)
		}
		x.marks(2, true)
		x.marks(4, true)
		if w, _ := x.a.Read(4); w != wordOf(hd(h.Kind, h.Fields, h.Raws, true, 1)) {
			t.Fatalf("marked, upon the first object: %#x", w)
		}
		x.marks(4, false)
		x.pops(4)
		if w, _ := x.a.Read(4); w != wordOf(hd(h.Kind, h.Fields, h.Raws, true, 0)) {
			t.Fatalf("popped: %#x", w)
		}
		x.marks(4, false)
		x.pops(2)
		x.popsNone()
		x.sweeps()
		if w, _ := x.a.Read(4); w != wordOf(hd(h.Kind, h.Fields, h.Raws, false, 0)) {
			t.Fatalf("swept: %#x", w)
		}
	}
}

// Promise 13.3: the last one that was marked is popped first; in each order.
func TestPopTellsTheLastFirst(t *testing.T) {
	places := []int{2, 4, 5, 8}
	for order := range 256 {
		x := empty(t, 9)
		x.puts(of(2), 2)
		x.puts(of(1), 4)
		x.puts(of(3), 5)
		x.puts(of(1), 8)
		var list []int
		for i := range 4 {
			at := places[order>>(2*i)%4]
			x.marks(at, !slices.Contains(list, at))
			if !slices.Contains(list, at) {
				list = append(list, at)
			}
		}
		slices.Reverse(list)
		x.pops(list...)
		x.popsNone()
		x.popsNone()
		// What was popped is marked still.
		for _, at := range list {
			x.marks(at, false)
		}
		x.popsNone()
	}
}

// Promise 13.3: where 12's Pop errs, the list stays as it is: it can be popped when its words are mended.
func TestPopThatErrs(t *testing.T) {
	bad := append(slices.Clone(noHeads), wordOf(of(9)), wordOf(hd(0, maxFields, 0, true, 1)))
	for _, w := range bad {
		x := empty(t, 4)
		x.puts(of(1), 2)
		x.puts(of(2), 3)
		x.puts(of(1), 5)
		x.marks(2, true)
		x.marks(5, true)
		x.marks(3, true)
		was := x.p.words[3]
		x.write(3, w)
		x.popsNone()
		x.popsNone()
		x.refusesMark(4, api.ErrPlace)
		x.write(3, was)
		x.pops(3, 5)
		was = x.p.words[2]
		x.write(2, w)
		x.popsNone()
		x.write(2, was)
		x.pops(2)
		x.popsNone()
	}
}

// Promise 13.3: a cursor that others wrote leads where it leads: to an object, or to no place of the table, and the list stays there until a sweep empties it.
func TestPopOfForeignCursors(t *testing.T) {
	for _, cursor := range []int{0, 1, 2, 3, 4, 5, maxCursor - 1, maxCursor} {
		x := empty(t, 4)
		x.puts(of(1), 2)
		x.puts(of(1), 3)
		x.puts(of(2), 4)
		x.marks(3, true)
		x.write(3, wordOf(hd(1, 0, 0, true, cursor)))
		x.pops(3)
		switch {
		case cursor == 0 || cursor > 3:
			x.popsNone()
		default:
			x.pops(cursor + 1)
		}
		x.popsNone()
		// What is marked now is put ahead of what the list has, be that a place or not.
		x.marks(4, true)
		x.pops(4)
		x.popsNone()
		x.sweeps(sp(2, 1))
		x.popsNone()
	}
	// A place that the table gets behind the Pop that led there.
	x := empty(t, 5)
	x.puts(of(1), 2)
	x.marks(2, true)
	x.write(2, wordOf(hd(1, 0, 0, true, 3)))
	x.pops(2)
	x.popsNone()
	x.puts(of(1), 3)
	x.popsNone()
	x.puts(hd(0, 1, 1, false, 2), 4)
	x.pops(4, 3)
	x.popsNone()
}

// R1: a list that others made go round can be popped, object by object: what is popped leads nowhere any more.
func TestPopOfAListThatGoesRound(t *testing.T) {
	x := empty(t, 3)
	x.puts(of(1), 2)
	x.puts(of(1), 3)
	x.puts(of(1), 4)
	for _, at := range []int{2, 3, 4} {
		x.marks(at, true)
	}
	x.write(2, wordOf(hd(0, 0, 0, true, 3)))
	x.pops(4, 3, 2, 4)
	x.popsNone()

	// Marked a second time, as others took the mark away: it leads to itself.
	x = empty(t, 1)
	x.puts(of(1), 2)
	x.marks(2, true)
	x.write(2, 3)
	x.marks(2, true)
	x.pops(2, 2)
	x.popsNone()
}

// Promise 13.4: in each order of five objects some are marked, and all others go, in order.
func TestSweepOfEachChoice(t *testing.T) {
	sizes := []int{2, 1, 1, 3, 2}
	for choice := range 32 {
		for popped := range 3 {
			x := empty(t, 10)
			var gone, kept []api.Span
			at := 2
			for i, n := range sizes {
				x.puts(hd(i, n-1, 0, false, 0), at)
				if choice>>i%2 == 1 {
					kept = append(kept, sp(at, n))
				} else {
					gone = append(gone, sp(at, n))
				}
				at += n
			}
			for _, s := range kept {
				x.marks(s.At, true)
			}
			for range min(popped, len(kept)) {
				x.pop()
			}
			x.sweeps(gone...)
			if l := x.l.Table(); !slices.Equal(l, kept) {
				t.Fatalf("choice %d: Table is %v, want %v", choice, l, kept)
			}
			x.popsNone()
			// None of them is marked any more.
			for _, s := range kept {
				x.marks(s.At, true)
			}
			for _, s := range gone {
				x.refusesMark(s.At, api.ErrPlace)
			}
			x.sweeps()
			x.sweeps(kept...)
			if l := x.l.Free(); !slices.Equal(l, []api.Span{sp(2, 10)}) {
				t.Fatalf("choice %d: Free is %v", choice, l)
			}
			x.sweeps()
			x.puts(of(10), 2)
		}
	}
}

// Promise 13.4: what goes is what the table has, whatever its headers say now; its words stay as they are, cursors, too.
func TestSweepLeavesTheWords(t *testing.T) {
	x := empty(t, 8)
	x.puts(hd(1, 2, 0, false, 77), 2)
	x.puts(hd(2, 0, 2, false, 88), 5)
	x.puts(of(2), 8)
	x.write(3, 9)
	x.write(6, 10)
	x.marks(5, true)
	x.sweeps(sp(2, 3), sp(8, 2))
	want := []uint64{0xABCD, 0xABCD, wordOf(hd(1, 2, 0, false, 77)), 9, 0, wordOf(hd(2, 0, 2, false, 0)), 10, 0, wordOf(of(2)), 0, 0xABCD}
	if l := x.a.Words(); !slices.Equal(l, want) {
		t.Fatalf("behind Sweep: %#x, want %#x", l, want)
	}
}

// Promise 13.4: the first error is told, and nothing changes: no object ahead of it goes, none loses its mark, and the list stays.
func TestSweepThatErrs(t *testing.T) {
	for bad := range 4 {
		for _, c := range []struct {
			w   uint64
			err api.Errno
		}{{0, api.ErrTag}, {22, api.ErrTag}, {3 + (maxRaws+1)<<24, api.ErrTag}, {wordOf(of(maxRaws)), api.ErrPlace}, {wordOf(hd(0, 9, 0, true, 0)), api.ErrPlace}} {
			x := empty(t, 8)
			for i := range 4 {
				x.puts(of(2), 2+2*i)
			}
			x.marks(4, true)
			x.marks(8, true)
			x.marks(2, true)
			was := x.p.words[2+2*bad]
			x.write(2+2*bad, c.w)
			x.refusesSweep(c.err)
			x.refusesSweep(c.err)
			x.write(2+2*bad, was)
			x.marks(4, false)
			x.pops(2, 8)
			x.sweeps(sp(6, 2))
			x.popsNone()
		}
	}
	// Of two errors the one ahead.
	for first := range 3 {
		x := empty(t, 4)
		for i := range 4 {
			x.puts(of(1), 2+i)
		}
		x.write(2+first, wordOf(of(9)))
		for i := first + 1; i < 4; i++ {
			x.write(2+i, 22)
		}
		x.refusesSweep(api.ErrPlace)
		x.write(2+first, 22)
		x.write(3+first, wordOf(of(9)))
		x.refusesSweep(api.ErrTag)
	}
}

// Promise 13.5: of a nil part, and of one that New did not make.
func TestNone(t *testing.T) {
	for _, l := range []*los.Los{nil, {}, new(los.Los)} {
		for range 2 {
			for _, h := range append(wrongHeads(), of(1), hd(0, maxFields, maxRaws, true, maxCursor)) {
				if at, err := l.Put(h); at != 0 || err != api.ErrState {
					t.Fatalf("Put(%v): %d %d", h, at, err)
				}
			}
			for _, at := range append(far, 0, 1, 2) {
				if is, err := l.Mark(at); is || err != api.ErrState {
					t.Fatalf("Mark(%d): %t %d", at, is, err)
				}
			}
			if at, ok := l.Pop(); at != 0 || ok {
				t.Fatalf("Pop: %d %t", at, ok)
			}
			if gone, err := l.Sweep(); gone != nil || err != api.ErrState {
				t.Fatalf("Sweep: %v %d", gone, err)
			}
			if l.Table() != nil || l.Free() != nil {
				t.Fatalf("Table %v, Free %v", l.Table(), l.Free())
			}
		}
	}
}

// Promise 13.5: what a part has that has nothing.
func TestPartsOfNothing(t *testing.T) {
	x := pairOf(t, []uint64{1, 2}, api.Span{})
	x.refusesPut(of(1), api.ErrMemory)
	x.refusesMark(0, api.ErrPlace)
	x.popsNone()
	x.sweeps()
	if len(x.l.Table()) != 0 || len(x.l.Free()) != 0 {
		t.Fatalf("Table %v, Free %v", x.l.Table(), x.l.Free())
	}
}

// Promise 13.6: whatever is written into the arena, table and free words stay what they were, and right.
func TestForeignWords(t *testing.T) {
	words := append(slices.Clone(noHeads), 3, 7, wordOf(of(2)), wordOf(of(4)), wordOf(hd(1, 1, 1, true, 1)), wordOf(hd(3, 0, 0, true, 4)))
	for _, w := range words {
		for at := range 10 {
			x := empty(t, 7)
			x.puts(of(2), 2)
			x.puts(of(1), 4)
			x.puts(of(3), 5)
			x.marks(5, true)
			x.marks(2, true)
			x.write(at, w)
			x.put(of(1))
			x.mark(4)
			x.pop()
			x.mark(2)
			x.sweep()
			x.put(of(2))
			x.mark(5)
			x.pop()
			x.sweep()
		}
	}
}

// Promise 13.6: an object whose header others made a greater one goes with the words that it took, and the next one stays whole.
func TestHeadersOfOtherSizes(t *testing.T) {
	x := empty(t, 7)
	x.puts(of(2), 2)
	x.puts(hd(3, 1, 1, false, 0), 4)
	x.write(2, wordOf(of(4)))
	x.marks(4, true)
	x.sweeps(sp(2, 2))
	x.puts(of(2), 2)
	x.marks(4, true)
	x.write(4, wordOf(hd(3, 0, 0, true, 0)))
	x.sweeps(sp(2, 2))
	x.write(4, wordOf(hd(3, 4, 0, false, 0)))
	x.marks(4, true)
	x.sweeps()
	x.sweeps(sp(4, 3))
	x.puts(of(7), 2)
}

// Promise 13.6: two parts of one arena keep apart.
func TestTwoPartsOfOneArena(t *testing.T) {
	a := arenaOf(t, make([]uint64, 12))
	l, _ := los.New(a, sp(0, 6), nil, []api.Span{sp(0, 6)})
	m, _ := los.New(a, sp(6, 6), nil, []api.Span{sp(6, 6)})
	for i := range 3 {
		at, _ := l.Put(of(2))
		other, err := m.Put(of(2))
		if at != 2*i || other != 6+2*i || err != api.OK {
			t.Fatalf("Put: %d %d %d", at, other, err)
		}
	}
	l.Mark(2)
	m.Mark(8)
	m.Mark(6)
	if _, err := l.Mark(8); err != api.ErrPlace {
		t.Fatalf("Mark of the other part's object: %d", err)
	}
	gone, _ := l.Sweep()
	if !slices.Equal(gone, []api.Span{sp(0, 2), sp(4, 2)}) {
		t.Fatalf("Sweep: %v", gone)
	}
	at, ok := m.Pop()
	next, too := m.Pop()
	if at != 6 || next != 8 || !ok || !too {
		t.Fatalf("Pop: %d %d", at, next)
	}
	if l := m.Table(); !slices.Equal(l, []api.Span{sp(6, 2), sp(8, 2), sp(10, 2)}) {
		t.Fatalf("Table of the other part: %v", l)
	}
}

// R1, R2: an arena that has become another one meanwhile: what 8 says is told, and the part stays as it is.
func TestArenasThatChange(t *testing.T) {
	for _, c := range []struct {
		n   int
		err api.Errno
	}{{-1, api.ErrState}, {0, api.ErrPlace}, {4, api.ErrPlace}} {
		a := arenaOf(t, make([]uint64, 9))
		l, _ := los.New(a, sp(4, 5), nil, []api.Span{sp(4, 5)})
		l.Put(of(2))
		l.Put(of(1))
		l.Mark(4)
		was := *a
		*a = arena.Arena{}
		if c.n >= 0 {
			*a = *arenaOf(t, make([]uint64, c.n))
		}
		if at, err := l.Put(of(2)); at != 0 || err != c.err {
			t.Fatalf("Put: %d %d", at, err)
		}
		if at, err := l.Put(of(3)); at != 0 || err != api.ErrMemory {
			t.Fatalf("Put of what has no room: %d %d", at, err)
		}
		for _, at := range []int{4, 6} {
			if is, err := l.Mark(at); is || err != c.err {
				t.Fatalf("Mark(%d): %t %d", at, is, err)
			}
		}
		if at, ok := l.Pop(); at != 0 || ok {
			t.Fatalf("Pop: %d %t", at, ok)
		}
		if gone, err := l.Sweep(); gone != nil || err != c.err {
			t.Fatalf("Sweep: %v %d", gone, err)
		}
		if !slices.Equal(l.Table(), []api.Span{sp(4, 2), sp(6, 1)}) || !slices.Equal(l.Free(), []api.Span{sp(7, 2)}) {
			t.Fatalf("Table %v, Free %v", l.Table(), l.Free())
		}
		*a = was
		at, ok := l.Pop()
		gone, err := l.Sweep()
		if at != 4 || !ok || !slices.Equal(gone, []api.Span{sp(6, 1)}) || err != api.OK {
			t.Fatalf("in its arena again: %d %t %v %d", at, ok, gone, err)
		}
	}
}

// R3: lists that are empty are the same, be they nil or not.
func TestEmptyLists(t *testing.T) {
	full := []uint64{wordOf(of(2)), 0}
	for _, none := range [][]api.Span{nil, {}, make([]api.Span, 0, 3)} {
		a := arenaOf(t, full)
		if l, err := los.New(a, sp(0, 2), none, []api.Span{sp(0, 2)}); l == nil || err != api.OK || len(l.Table()) != 0 {
			t.Fatalf("New of no table: %d", err)
		}
		if l, err := los.New(a, sp(0, 2), []api.Span{sp(0, 2)}, none); l == nil || err != api.OK || len(l.Free()) != 0 {
			t.Fatalf("New of no free words: %d", err)
		}
		if l, err := los.New(a, api.Span{}, none, none); l == nil || err != api.OK {
			t.Fatalf("New of nothing: %d", err)
		}
	}
}

// spoil changes all of a list, and what has room behind it.
func spoil(l []api.Span) {
	l = l[:cap(l)]
	for i := range l {
		l[i] = sp(-7, math.MinInt)
	}
}

// R4: lists that are handed in are not changed and not kept; what is answered is new memory.
func TestListsAreNotSharedAndNotKept(t *testing.T) {
	words := []uint64{wordOf(of(2)), 0, 5, wordOf(of(1)), 5, 5}
	table, free := []api.Span{sp(0, 2), sp(3, 1)}, []api.Span{sp(2, 1), sp(4, 2)}
	wasTable, wasFree := slices.Clone(table), slices.Clone(free)
	x := pairOf(t, words, sp(0, 6), table...)
	l, err := los.New(x.a, sp(0, 6), table, free)
	if err != api.OK || !slices.Equal(table, wasTable) || !slices.Equal(free, wasFree) {
		t.Fatalf("New: %d, and the lists are %v, %v", err, table, free)
	}
	x.l = l
	spoil(table)
	spoil(free)
	x.same("the lists are changed")
	spoil(x.l.Table())
	spoil(x.l.Free())
	x.same("what was told is changed")
	x.puts(of(1), 2)
	kept := x.l.Table()
	x.puts(of(1), 4)
	if !slices.Equal(kept, []api.Span{sp(0, 2), sp(2, 1), sp(3, 1)}) {
		t.Fatalf("what was told changes behind the call: %v", kept)
	}
	x.marks(3, true)
	kept, left := x.l.Table(), x.l.Free()
	gone, _ := x.sweep()
	if !slices.Equal(kept, []api.Span{sp(0, 2), sp(2, 1), sp(3, 1), sp(4, 1)}) || !slices.Equal(left, []api.Span{sp(5, 1)}) {
		t.Fatalf("what was told changes behind the call: %v, %v", kept, left)
	}
	spoil(gone)
	spoil(x.l.Table())
	spoil(x.l.Free())
	x.same("what was told is changed")
	x.puts(of(3), 0)
	x.marks(3, true)
	x.sweeps(sp(0, 3))
}

// R4: a part that is full, or has one free span, shares its lists as little.
func TestOneFreeSpanIsNotShared(t *testing.T) {
	free := []api.Span{sp(0, 4)}
	a := arenaOf(t, make([]uint64, 4))
	l, _ := los.New(a, sp(0, 4), nil, free)
	l.Put(of(2))
	if free[0] != sp(0, 4) {
		t.Fatalf("Put changed the list that was handed in: %v", free)
	}
	m, _ := los.New(a, sp(0, 4), l.Table(), l.Free())
	m.Put(of(1))
	m.Sweep()
	if !slices.Equal(l.Table(), []api.Span{sp(0, 2)}) || !slices.Equal(l.Free(), []api.Span{sp(2, 2)}) {
		t.Fatalf("another part changed this one: %v, %v", l.Table(), l.Free())
	}
}

// Promises 13.2 to 13.4: all rows of four calls on a part of five words.
func TestAllSmallRowsOfCalls(t *testing.T) {
	calls := []func(x *pair){
		func(x *pair) { x.put(of(1)) },
		func(x *pair) { x.put(hd(1, 1, 0, false, 0)) },
		func(x *pair) { x.put(hd(2, 1, 1, true, 2)) },
		func(x *pair) { x.mark(2) },
		func(x *pair) { x.mark(3) },
		func(x *pair) { x.mark(4) },
		func(x *pair) { x.mark(5) },
		func(x *pair) { x.pop() },
		func(x *pair) { x.sweep() },
	}
	for row := range 9 * 9 * 9 * 9 {
		x := empty(t, 5)
		for n := row; n > 0; n /= 9 {
			calls[n%9](x)
		}
	}
}

// step is the next of a row of numbers that look like any.
func step(n uint64) uint64 { return n*6364136223846793005 + 1442695040888963407 }

// play asks a long row of calls of a part, others writing into it now and then, and answers the words that it leaves.
func play(t *testing.T, seed uint64, foreign bool) []uint64 {
	t.Helper()
	x := empty(t, 40)
	for range 400 {
		seed = step(seed)
		n := int(seed >> 40)
		at := 2 + n/64%40
		if len(x.p.table) > 0 && n%5 > 0 {
			at = x.p.table[n/64%len(x.p.table)].At
		}
		switch n % 64 / 4 {
		case 0, 1, 2, 3, 4, 5:
			x.put(hd(n%32, n/64%4, n/256%5, false, 0))
		case 6, 7, 8, 9, 10, 11:
			x.mark(at)
		case 12, 13:
			x.pop()
		case 14:
			x.sweep()
		default:
			if foreign {
				x.write(at, []uint64{3, 7, 22, wordOf(of(3)), wordOf(hd(1, 0, 0, true, n/64%9)), wordOf(of(90))}[n/4096%6])
			}
		}
	}
	return x.a.Words()
}

// Promises 13.2 to 13.6: long rows of calls. R5: the same calls leave the same.
func TestLongRowsOfCalls(t *testing.T) {
	for seed := range uint64(20) {
		for _, foreign := range []bool{false, true} {
			words := play(t, seed, foreign)
			if again := play(t, seed, foreign); !slices.Equal(words, again) {
				t.Fatalf("the same calls left other words: %#x, %#x", words, again)
			}
		}
	}
}

// R1: the greatest part, of which each second object goes: what is free has as many spans as there are.
func TestTheGreatestPart(t *testing.T) {
	words := make([]uint64, maxWords)
	table := make([]api.Span, maxWords)
	for i := range words {
		words[i] = wordOf(hd(0, 0, 0, i%2 == 1, 0))
		table[i] = sp(i, 1)
	}
	a := arenaOf(t, words)
	l, err := los.New(a, sp(0, maxWords), table, nil)
	if err != api.OK {
		t.Fatalf("New: %d", err)
	}
	for i := range 100 {
		if is, err := l.Mark(maxWords - 2 - 2*i); !is || err != api.OK {
			t.Fatalf("Mark: %t %d", is, err)
		}
	}
	for i := 99; i >= 0; i-- {
		if at, ok := l.Pop(); at != maxWords-2-2*i || !ok {
			t.Fatalf("Pop: %d %t", at, ok)
		}
	}
	gone, err := l.Sweep()
	if err != api.OK || len(gone) != maxWords/2-100 || len(l.Table()) != maxWords/2+100 || !slices.Equal(gone, l.Free()) {
		t.Fatalf("Sweep: %d spans, %d; Table has %d, Free %d", len(gone), err, len(l.Table()), len(l.Free()))
	}
	for i, s := range gone {
		if s != sp(2*i, 1) {
			t.Fatalf("the span %d that is gone: %v", i, s)
		}
	}
	if at, err := l.Put(of(2)); at != 0 || err != api.ErrMemory {
		t.Fatalf("Put of two words: %d %d", at, err)
	}
	if at, err := l.Put(of(1)); at != 0 || err != api.OK {
		t.Fatalf("Put of one word: %d %d", at, err)
	}
	gone, err = l.Sweep()
	if err != api.OK || len(gone) != maxWords/2+101 || len(l.Table()) != 0 || !slices.Equal(l.Free(), []api.Span{sp(0, maxWords)}) {
		t.Fatalf("Sweep: %d spans, %d; Table has %d, Free %v", len(gone), err, len(l.Table()), l.Free())
	}
}
