package thread_test

import (
	"math"
	"slices"
	"testing"

	"triforium/api"
	"triforium/arena"
	"triforium/thread"
)

// The chapters' numbers, in digits: a limit that is changed in api would be told here.
const (
	maxKind   = 31
	maxFields = 4096
	maxRaws   = 4096
	maxCursor = 1048576
	maxAt     = 1099511627776
	maxWords  = 98304
)

const all = ^uint64(0)

func sp(at, size int) api.Span { return api.Span{At: at, Size: size} }

// ats is a table of spans of one word, at these places.
func ats(places ...int) []api.Span {
	table := []api.Span{}
	for _, at := range places {
		table = append(table, sp(at, 1))
	}
	return table
}

func hd(kind, fields, raws int, mark bool, cursor int) api.Head {
	return api.Head{Kind: kind, Fields: fields, Raws: raws, Mark: mark, Cursor: cursor}
}

func sizeOf(h api.Head) int { return 1 + h.Fields + h.Raws }

func wordOf(h api.Head) uint64 {
	w := 3 + uint64(h.Kind)*8 + uint64(h.Fields)*256 + uint64(h.Raws)*256*65536 + uint64(h.Cursor)*256*65536*65536
	if h.Mark {
		w += 4
	}
	return w
}

// headOf tells the header whose word w is, by the chapter of headers.
func headOf(w uint64) (api.Head, bool) {
	h := hd(int(w/8%32), int(w/256%65536), int(w/256/65536%65536), w/4%2 == 1, int(w/256/65536/65536))
	return h, w%4 == 3 && h.Fields <= maxFields && h.Raws <= maxRaws && h.Cursor <= maxCursor
}

// noHeads are words of no header: values, forwarded headers, other words whose lowest bits are not 3, and such of which a number may not be.
var noHeads = []uint64{
	0, 1, 2, 4, 5, 6, 22, 38, 520, 521, 522, all - 1, all - 2, all - 3, all, 1 << 63, 1<<63 + 1,
	3 + (maxFields+1)<<8, 3 + 65535<<8, 3 + (maxRaws+1)<<24, 3 + 65535<<24, 3 + (maxCursor+1)<<40, 3 + 1<<63, 7 + (maxFields+1)<<8,
}

// far are ints that are no place of any arena, of no table that is tried here, and no top.
var far = []int{
	-1, -2, -3, -7, -8193, -98304, -maxCursor, math.MinInt, math.MinInt + 1, math.MinInt + 2, math.MinInt + 3, math.MinInt / 2,
	1<<20 + 1, 1<<20 + 2, 1 << 24, 1<<24 - 1, 1 << 31, 1<<31 - 1, 1 << 32, 1<<32 + 1, 1<<32 + 2, -1 << 32, 1<<32 - 1, maxAt, maxAt + 1, 1 << 62, math.MaxInt - 3, math.MaxInt - 2, math.MaxInt - 1, math.MaxInt,
}

// row is the words that an arena should have; its methods say what the chapter says, of a plain list. One that is nil is an arena that is none.
type row []uint64

func (r row) head(at int) (api.Head, api.Errno) {
	switch {
	case r == nil:
		return api.Head{}, api.ErrState
	case at < 0 || at >= len(r):
		return api.Head{}, api.ErrPlace
	}
	h, ok := headOf(r[at])
	switch {
	case !ok:
		return api.Head{}, api.ErrTag
	case len(r[at:]) < sizeOf(h):
		return api.Head{}, api.ErrPlace
	}
	return h, api.OK
}

func (r row) push(table []api.Span, top, i int) (int, api.Errno) {
	switch {
	case i < 0 || i >= len(table):
		return 0, api.ErrPlace
	case top < 0 || top > maxCursor:
		return 0, api.ErrArg
	}
	h, err := r.head(table[i].At)
	if err != api.OK {
		return 0, err
	}
	h.Cursor = top
	r[table[i].At] = wordOf(h)
	return i + 1, api.OK
}

func (r row) pop(table []api.Span, top int) (int, int, api.Errno) {
	if top <= 0 || top > len(table) {
		return 0, 0, api.ErrPlace
	}
	h, err := r.head(table[top-1].At)
	if err != api.OK {
		return 0, 0, err
	}
	next := h.Cursor
	h.Cursor = 0
	r[table[top-1].At] = wordOf(h)
	return next, top - 1, api.OK
}

func (r row) all(table []api.Span, top int) ([]int, api.Errno) {
	var l []int
	for top != 0 {
		if top < 0 || top > len(table) {
			return nil, api.ErrPlace
		}
		h, err := r.head(table[top-1].At)
		if err != api.OK {
			return nil, err
		}
		l = append(l, top-1)
		if len(l) > len(table) {
			return nil, api.ErrForm
		}
		top = h.Cursor
	}
	return l, api.OK
}

// pair is an arena, and the words that it should have: each call is asked of both.
type pair struct {
	t *testing.T
	a *arena.Arena
	r row
}

func pairOf(t *testing.T, l []uint64) *pair {
	t.Helper()
	a, err := arena.Of(l)
	if err != api.OK || a == nil {
		t.Fatalf("no arena of %d words: %d", len(l), err)
	}
	return &pair{t, a, append(row{}, l...)}
}

// same asks that the arena has the words that it should have.
func (p *pair) same(what string) {
	p.t.Helper()
	if l := p.a.Words(); !slices.Equal(l, p.r) {
		p.t.Fatalf("%s: the words are %#x, want %#x", what, l, []uint64(p.r))
	}
}

func (p *pair) push(table []api.Span, top, i int) (int, api.Errno) {
	p.t.Helper()
	was := slices.Clone(table)
	want, wantErr := p.r.push(was, top, i)
	got, err := thread.Push(p.a, table, top, i)
	if got != want || err != wantErr {
		p.t.Fatalf("Push(%v, %d, %d): %d %d, want %d %d", short(was), top, i, got, err, want, wantErr)
	}
	p.same("Push")
	p.kept(table, was)
	return got, err
}

func (p *pair) pop(table []api.Span, top int) (int, int, api.Errno) {
	p.t.Helper()
	was := slices.Clone(table)
	want, wantPlace, wantErr := p.r.pop(was, top)
	got, place, err := thread.Pop(p.a, table, top)
	if got != want || place != wantPlace || err != wantErr {
		p.t.Fatalf("Pop(%v, %d): %d %d %d, want %d %d %d", short(was), top, got, place, err, want, wantPlace, wantErr)
	}
	p.same("Pop")
	p.kept(table, was)
	return got, place, err
}

func (p *pair) all(table []api.Span, top int) ([]int, api.Errno) {
	p.t.Helper()
	was := slices.Clone(table)
	want, wantErr := p.r.all(was, top)
	got, err := thread.All(p.a, table, top)
	if !slices.Equal(got, want) || err != wantErr || err != api.OK && got != nil {
		p.t.Fatalf("All(%v, %d): %v %d, want %v %d", short(was), top, got, err, want, wantErr)
	}
	p.same("All")
	p.kept(table, was)
	return got, err
}

func (p *pair) kept(table, was []api.Span) {
	p.t.Helper()
	if !slices.Equal(table, was) {
		p.t.Fatalf("the table %v was changed: %v", short(was), short(table))
	}
}

func short(table []api.Span) []api.Span { return table[:min(len(table), 8)] }

// pushes asks that the place is pushed, and for the top that is told.
func (p *pair) pushes(table []api.Span, top, i, want int) {
	p.t.Helper()
	if got, err := p.push(table, top, i); got != want || err != api.OK {
		p.t.Fatalf("Push(%v, %d, %d): %d %d, want %d and OK", short(table), top, i, got, err, want)
	}
}

// pops asks for the first place of the list, and the top behind it.
func (p *pair) pops(table []api.Span, top, want, place int) {
	p.t.Helper()
	if got, i, err := p.pop(table, top); got != want || i != place || err != api.OK {
		p.t.Fatalf("Pop(%v, %d): %d %d %d, want %d %d and OK", short(table), top, got, i, err, want, place)
	}
}

// lists asks for the places of the list.
func (p *pair) lists(table []api.Span, top int, want ...int) {
	p.t.Helper()
	if l, err := p.all(table, top); !slices.Equal(l, want) || err != api.OK {
		p.t.Fatalf("All(%v, %d): %v %d, want %v and OK", short(table), top, l, err, want)
	}
}

func (p *pair) refusesPush(table []api.Span, top, i int, want api.Errno) {
	p.t.Helper()
	if _, err := p.push(table, top, i); err != want {
		p.t.Fatalf("Push(%v, %d, %d): %d, want %d", short(table), top, i, err, want)
	}
}

func (p *pair) refusesPop(table []api.Span, top int, want api.Errno) {
	p.t.Helper()
	if _, _, err := p.pop(table, top); err != want {
		p.t.Fatalf("Pop(%v, %d): %d, want %d", short(table), top, err, want)
	}
}

func (p *pair) refusesAll(table []api.Span, top int, want api.Errno) {
	p.t.Helper()
	if _, err := p.all(table, top); err != want {
		p.t.Fatalf("All(%v, %d): %d, want %d", short(table), top, err, want)
	}
}

// rowOf is n words that are no header's, then the objects of these headers, one behind the other, and n more words that are none.
func rowOf(n int, heads ...api.Head) []uint64 {
	l := slices.Repeat([]uint64{all}, n)
	for i, h := range heads {
		l = append(l, wordOf(h))
		for j := range h.Fields {
			l = append(l, uint64(4*(i+j)+1))
		}
		l = append(l, slices.Repeat([]uint64{all - uint64(i)}, h.Raws)...)
	}
	return append(l, slices.Repeat([]uint64{all}, n)...)
}

// cursors are objects of one word, with these cursors.
func cursors(tops ...int) []uint64 {
	l := []uint64{}
	for _, top := range tops {
		l = append(l, wordOf(hd(0, 0, 0, false, top)))
	}
	return l
}

// nones are arenas that are none.
func nones(t *testing.T) []*pair {
	return []*pair{{t, nil, nil}, {t, &arena.Arena{}, nil}, {t, new(arena.Arena), nil}}
}

// The chapter's example, and what else can be asked of these objects.
func TestExamples(t *testing.T) {
	p := pairOf(t, rowOf(1, hd(1, 1, 0, false, 0), hd(2, 0, 2, false, 0)))
	table := []api.Span{sp(1, 2), sp(3, 3)}
	p.lists(table, 0)
	p.pushes(table, 0, 1, 2)
	p.lists(table, 2, 1)
	p.pushes(table, 2, 0, 1)
	p.lists(table, 1, 0, 1)
	p.pops(table, 1, 2, 0)
	p.lists(table, 2, 1)
	p.lists(table, 1, 0)
	p.pops(table, 2, 0, 1)
	p.refusesPop(table, 0, api.ErrPlace)
	p.lists(table, 0)
}

// Promise 12.1: what is no place of the table is told ahead of all else.
func TestPushOfNoPlace(t *testing.T) {
	for n := range 4 {
		table := ats(0, 1, 2)[:n]
		for _, i := range append([]int{n, n + 1, n + 2, 5, 100, maxCursor}, far...) {
			for _, top := range append([]int{0, 1, n, n + 1, maxCursor, maxCursor + 1}, far...) {
				pairOf(t, cursors(0, 0, 0)).refusesPush(table, top, i, api.ErrPlace)
			}
			for _, p := range append(nones(t), pairOf(t, nil), pairOf(t, noHeads)) {
				p.refusesPush(table, 0, i, api.ErrPlace)
				p.refusesPush(table, -1, i, api.ErrPlace)
			}
		}
	}
	p := pairOf(t, cursors(0, 0, 0))
	p.refusesPush(nil, 0, 0, api.ErrPlace)
	p.refusesPush([]api.Span{}, 0, 0, api.ErrPlace)
	p.refusesPush(ats(0, 1, 2)[:1], 0, 1, api.ErrPlace)
}

// Promise 12.1: a top that no cursor may be is told ahead of what stands there.
func TestPushUponNoTop(t *testing.T) {
	for _, top := range append([]int{-1, maxCursor + 1}, far...) {
		for i, at := range []int{0, 2, 3, 7, -1, maxAt} {
			table := ats(0, 2, 3, 7, -1, maxAt)
			for _, p := range append(nones(t), pairOf(t, nil), pairOf(t, noHeads), pairOf(t, cursors(0, 0, 0, 0)), pairOf(t, rowOf(2, hd(1, 3, 3, false, 0)))) {
				if _, err := p.push(table, top, i); err != api.ErrArg {
					t.Fatalf("Push of %d (at %d) upon %d: %d, want ErrArg", i, at, top, err)
				}
			}
		}
	}
}

// Promise 12.1: each top that a cursor may be is one, be there such an object, or not.
func TestPushUponEachTop(t *testing.T) {
	for _, top := range []int{0, 1, 2, 3, 4, 5, 255, 256, 4096, 4097, 65535, 65536, 699050, maxCursor - 1, maxCursor} {
		for i := range 3 {
			p := pairOf(t, cursors(7, 8, 9))
			p.pushes(ats(0, 1, 2), top, i, i+1)
			p.pops(ats(0, 1, 2), i+1, top, i)
		}
	}
}

// Promise 12.1: the header's cursor alone is changed: its other numbers, its mark, and all other words stay.
func TestPushAndPopChangeTheCursorAlone(t *testing.T) {
	for _, h := range []api.Head{
		{}, {Kind: 1}, {Kind: maxKind}, {Fields: 3}, {Raws: 3}, {Mark: true}, {Cursor: 1}, {Cursor: maxCursor}, hd(7, 2, 3, true, 699050), hd(maxKind, 1, 1, true, maxCursor), hd(1, maxFields, maxRaws, false, 2),
	} {
		p := pairOf(t, rowOf(3, hd(4, 1, 1, true, 5), h, hd(5, 2, 0, false, 6)))
		table := []api.Span{sp(3, 3), sp(6, sizeOf(h)), sp(6+sizeOf(h), 3)}
		p.pushes(table, 1, 1, 2)
		p.lists(table[1:], 0)
		if got, err := p.r.head(6); err != api.OK || got != hd(h.Kind, h.Fields, h.Raws, h.Mark, 1) {
			t.Fatalf("behind Push of %v: %v %d", h, got, err)
		}
		p.pops(table, 2, 1, 1)
		if got, err := p.r.head(6); err != api.OK || got != hd(h.Kind, h.Fields, h.Raws, h.Mark, 0) {
			t.Fatalf("behind Pop of %v: %v %d", h, got, err)
		}
		// Pushed again, upon another top: the one that it had is not kept.
		p.pushes(table, 3, 1, 2)
		p.pushes(table, 0, 1, 2)
		p.lists(table, 2, 1)
	}
}

// wrong are words, places of them, and what is told of an object there; the arena has more words ahead.
var wrong = []struct {
	at  int
	l   []uint64
	err api.Errno
}{
	{0, nil, api.ErrPlace},
	{3, cursors(0, 0, 0), api.ErrPlace},
	{4, cursors(0, 0, 0), api.ErrPlace},
	{-1, cursors(0, 0, 0), api.ErrPlace},
	{maxWords, cursors(0, 0, 0), api.ErrPlace},
	{maxAt, cursors(0, 0, 0), api.ErrPlace},
	{math.MinInt, cursors(0, 0, 0), api.ErrPlace},
	{math.MaxInt, cursors(0, 0, 0), api.ErrPlace},
	{-1, []uint64{0, 0}, api.ErrPlace},
	{2, []uint64{0, 0}, api.ErrPlace},
	{1, []uint64{3, 259}, api.ErrPlace},
	{1, []uint64{3, 3 + 2<<8, 0}, api.ErrPlace},
	{1, []uint64{3, 3 + 1<<24}, api.ErrPlace},
	{0, []uint64{3 + 4096<<8 + 4096<<24, 3}, api.ErrPlace},
	{1, []uint64{3, 0, 3}, api.ErrTag},
	{1, []uint64{3, 5, 3}, api.ErrTag},
	{1, []uint64{3, 22, 3}, api.ErrTag},
	{2, []uint64{3, 3, 3 + (maxCursor+1)<<40}, api.ErrTag},
	{0, []uint64{3 + 4097<<8, 3}, api.ErrTag},
}

// Promises 12.1 to 12.3: what 8's Head says of the place at which the span begins, in the table's first place, in one between, and in its last one.
func TestObjectsThatAreNone(t *testing.T) {
	for _, w := range wrong {
		for i := range 3 {
			table := ats(0, 0, 0)
			table[i].At = w.at
			for _, size := range []int{1, 2, 3, 0, -1, maxAt, math.MaxInt, math.MinInt} {
				table[i].Size = size
				p := pairOf(t, w.l)
				p.refusesPush(table, 0, i, w.err)
				p.refusesPush(table, maxCursor, i, w.err)
				p.refusesPop(table, i+1, w.err)
				p.refusesAll(table, i+1, w.err)
				for _, none := range nones(t) {
					none.refusesPush(table, 0, i, api.ErrState)
					none.refusesPop(table, i+1, api.ErrState)
					none.refusesAll(table, i+1, api.ErrState)
				}
			}
		}
	}
	for _, w := range noHeads {
		p := pairOf(t, []uint64{3, w, 3})
		p.refusesPush(ats(0, 1, 2), 0, 1, api.ErrTag)
		p.refusesPop(ats(0, 1, 2), 2, api.ErrTag)
		p.refusesAll(ats(0, 1, 2), 2, api.ErrTag)
	}
}

// Promises 12.1 to 12.3: just where a span begins is asked, not how great it is, nor whether it may be.
func TestSizesAreNotAsked(t *testing.T) {
	for _, size := range []int{0, 1, 2, 3, 4, 100, maxAt - 1, maxAt, -1, math.MaxInt, math.MinInt} {
		p := pairOf(t, rowOf(2, hd(1, 1, 1, false, 0), hd(2, 0, 2, true, 0)))
		table := []api.Span{sp(5, size), sp(2, size)}
		p.pushes(table, 0, 1, 2)
		p.pushes(table, 2, 0, 1)
		p.lists(table, 1, 0, 1)
		p.pops(table, 1, 2, 0)
		p.pops(table, 2, 0, 1)
	}
}

// Promise 12.2: a top that leads to no place of the table is told ahead of all else; 0 does.
func TestPopOfNoPlace(t *testing.T) {
	for n := range 4 {
		table := ats(0, 1, 2)[:n]
		for _, top := range append([]int{0, n + 1, n + 2, 5, 100, maxCursor}, far...) {
			for _, p := range append(nones(t), pairOf(t, nil), pairOf(t, noHeads), pairOf(t, cursors(0, 0, 0))) {
				p.refusesPop(table, top, api.ErrPlace)
			}
		}
	}
	p := pairOf(t, cursors(0, 0, 0))
	p.refusesPop(nil, 0, api.ErrPlace)
	p.refusesPop(nil, 1, api.ErrPlace)
	p.refusesPop(ats(0, 1, 2)[:1], 2, api.ErrPlace)
}

// Promise 12.2: the cursor is told, whatever it is, and is 0 then: the object is on no list any more.
func TestPopTellsEachCursor(t *testing.T) {
	for _, top := range []int{0, 1, 2, 3, 4, 255, 256, 65535, 65536, maxCursor - 1, maxCursor} {
		p := pairOf(t, cursors(0, top, 3))
		p.pops(ats(0, 1, 2), 2, top, 1)
		p.pops(ats(0, 1, 2), 2, 0, 1)
		p.lists(ats(0, 1, 2), 2, 1)
	}
}

// Promise 12.3: a list of no object asks nothing, be there an arena and a table, or not.
func TestAllOfNoObject(t *testing.T) {
	for _, table := range [][]api.Span{nil, {}, ats(0), ats(-1, maxAt, 5), ats(0, 1, 2)} {
		for _, p := range append(nones(t), pairOf(t, nil), pairOf(t, noHeads), pairOf(t, cursors(1, 1, 1))) {
			p.lists(table, 0)
		}
	}
}

// Promise 12.3: a top that is not 0 and leads to no place, the first one or one that a cursor tells.
func TestAllOfNoPlace(t *testing.T) {
	for n := range 4 {
		table := ats(0, 1, 2)[:n]
		for _, top := range append([]int{n + 1, n + 2, 5, 100, maxCursor}, far...) {
			for _, p := range append(nones(t), pairOf(t, nil), pairOf(t, noHeads), pairOf(t, cursors(0, 0, 0))) {
				p.refusesAll(table, top, api.ErrPlace)
			}
		}
	}
	for _, top := range []int{4, 5, 100, maxCursor} {
		p := pairOf(t, cursors(2, 3, top))
		p.refusesAll(ats(0, 1, 2), 1, api.ErrPlace)
		p.refusesAll(ats(0, 1, 2), 2, api.ErrPlace)
		p.refusesAll(ats(0, 1, 2), 3, api.ErrPlace)
	}
	pairOf(t, cursors(3, 0, 0)).refusesAll(ats(0, 1, 2)[:2], 1, api.ErrPlace)
}

// Promise 12.3: an object behind the first one that errs is told, and no place ahead of it is.
func TestAllErrsOnItsWay(t *testing.T) {
	for _, w := range wrong {
		for n := range 4 {
			// The last n of four places have an object each, that leads to the next place; the fifth place is the wrong one.
			p := pairOf(t, append(cursors(2, 3, 4, 5)[4-n:], w.l...))
			table := []api.Span{}
			for i := range 4 {
				table = append(table, sp(i-(4-n), 1))
			}
			at := w.at
			if at >= 0 && at < maxWords {
				at += n
			}
			table = append(table, sp(at, 1))
			p.refusesAll(table, 5-n, w.err)
		}
	}
}

// Promise 12.3: a list may have all that the table has, but no more: what goes round is told, from each object, and behind some that it does not get to again.
func TestListsThatGoRound(t *testing.T) {
	for n := 1; n <= 6; n++ {
		table, tops := []api.Span{}, []int{}
		for i := range n {
			table, tops = append(table, sp(i, 1)), append(tops, i+2)
		}
		for back := 0; back <= n; back++ {
			tops[n-1] = back
			p := pairOf(t, cursors(tops...))
			for top := 1; top <= n; top++ {
				l, err := p.all(table, top)
				if back > 0 && err != api.ErrForm || back == 0 && (err != api.OK || len(l) != n-top+1) {
					t.Fatalf("All of %d objects from %d on, the last of which leads to %d: %v %d", n, top, back, l, err)
				}
			}
		}
	}
	p := pairOf(t, cursors(1, 3, 2, 0))
	p.refusesAll(ats(0), 1, api.ErrForm)
	p.refusesAll(ats(0, 1, 2), 2, api.ErrForm)
	p.refusesAll(ats(0, 1, 2, 3, 3, 3, 3), 3, api.ErrForm)
	p.lists(ats(0, 1, 2, 3), 4, 3)
}

// Promise 12.3: an object that has two places in the table has one cursor.
func TestTwoPlacesOfOneObject(t *testing.T) {
	p := pairOf(t, cursors(0, 0))
	table := ats(0, 1, 0)
	p.pushes(table, 0, 0, 1)
	p.pushes(table, 1, 1, 2)
	p.lists(table, 2, 1, 0)
	p.lists(table, 3, 2)
	p.pushes(table, 2, 2, 3)
	p.refusesAll(table, 3, api.ErrForm)
	p.refusesAll(table, 1, api.ErrForm)
	p.pops(table, 3, 2, 2)
	p.lists(table, 2, 1, 0)
	p.lists(table, 1, 0)
}

// eachRow hands over all rows of n numbers of these.
func eachRow(n int, of []int, do func(l []int)) {
	var from func(l []int)
	from = func(l []int) {
		if len(l) == n {
			do(l)
			return
		}
		for _, x := range of {
			from(append(slices.Clone(l), x))
		}
	}
	from(nil)
}

// Promises 12.1 to 12.3: all small lists, and all that may be asked of them.
func TestAllSmallLists(t *testing.T) {
	for n := range 4 {
		eachRow(n, []int{-1, 0, 1, 2, 3, 4}, func(places []int) {
			eachRow(n, []int{0, 1, 2, 3, 4}, func(tops []int) {
				table := ats(places...)
				for top := -1; top <= n+1; top++ {
					p := pairOf(t, cursors(tops...))
					p.all(table, top)
					p.pop(table, top)
					p.all(table, top)
				}
			})
		})
	}
}

// Promise 12.4: in each order objects are pushed; they are told, and popped, the last one first.
func TestPushedInEachOrder(t *testing.T) {
	heads := []api.Head{hd(1, 2, 0, false, 0), hd(2, 0, 1, true, 0), {}, hd(3, 1, 1, false, 0), hd(4, 3, 0, true, 0)}
	table := []api.Span{sp(2, 3), sp(5, 2), sp(7, 1), sp(8, 3), sp(11, 4)}
	for n := range len(heads) + 1 {
		eachRow(n, []int{0, 1, 2, 3, 4}, func(order []int) {
			if sorted := slices.Sorted(slices.Values(order)); len(slices.Compact(sorted)) < n {
				return
			}
			p := pairOf(t, rowOf(2, heads...))
			tops := []int{0}
			for _, i := range order {
				p.pushes(table, tops[len(tops)-1], i, i+1)
				tops = append(tops, i+1)
			}
			last := slices.Clone(order)
			slices.Reverse(last)
			p.lists(table, tops[n], last...)
			for k, i := range last {
				p.pops(table, tops[n-k], tops[n-k-1], i)
				p.lists(table, tops[n-k-1], last[k+1:]...)
			}
			if !slices.Equal(p.a.Words(), rowOf(2, heads...)) {
				t.Fatalf("pushed and popped in the order %v: %#x", order, p.a.Words())
			}
		})
	}
}

// step is the next of a row of numbers that look like any.
func step(n uint64) uint64 { return n*6364136223846793005 + 1442695040888963407 }

// play pushes and pops on three lists of one table, and answers what is left of them.
func play(t *testing.T, seed uint64) ([]uint64, [3][]int) {
	t.Helper()
	heads := make([]api.Head, 12)
	table := make([]api.Span, 12)
	at := 2
	for i := range heads {
		heads[i] = hd(i, i%3, i%4, i%2 == 1, 0)
		table[i] = sp(at, sizeOf(heads[i]))
		at += sizeOf(heads[i])
	}
	p := pairOf(t, rowOf(2, heads...))
	var lists [3][]int // the last one that was pushed stands last
	var tops [3]int
	for range 400 {
		seed = step(seed)
		x := int(seed >> 33)
		k, i := x%3, x/3%12
		on := slices.Contains(slices.Concat(lists[:]...), i)
		switch l := lists[k]; {
		case !on:
			p.pushes(table, tops[k], i, i+1)
			tops[k], lists[k] = i+1, append(l, i)
		case len(l) == 0:
			p.refusesPop(table, tops[k], api.ErrPlace)
		default:
			top, place, err := p.pop(table, tops[k])
			if err != api.OK || place != l[len(l)-1] {
				t.Fatalf("Pop: %d %d %d, want the place %d", top, place, err, l[len(l)-1])
			}
			tops[k], lists[k] = top, l[:len(l)-1]
		}
		for k := range lists {
			last := slices.Clone(lists[k])
			slices.Reverse(last)
			p.lists(table, tops[k], last...)
		}
	}
	return p.a.Words(), lists
}

// Promise 12.4: several lists of one table keep apart, behind any row of calls. R5: the same calls leave the same.
func TestLongRowsOfCalls(t *testing.T) {
	for seed := range uint64(20) {
		words, lists := play(t, seed)
		again, same := play(t, seed)
		if !slices.Equal(words, again) || !slices.EqualFunc(lists[:], same[:], slices.Equal) {
			t.Fatalf("the same calls left other words: %#x, %#x", words, again)
		}
	}
}

// R3: a table that is empty is the same, be it nil or not.
func TestEmptyTables(t *testing.T) {
	for _, table := range [][]api.Span{nil, {}, ats(0)[:0]} {
		p := pairOf(t, cursors(0))
		p.refusesPush(table, 0, 0, api.ErrPlace)
		p.refusesPop(table, 1, api.ErrPlace)
		p.refusesAll(table, 1, api.ErrPlace)
		p.lists(table, 0)
	}
}

// R4: what is answered is new memory, and what is handed in is not kept: a table may be changed behind a call.
func TestListsAreNotSharedAndNotKept(t *testing.T) {
	p := pairOf(t, cursors(0, 0, 0))
	table := ats(2, 0, 1)
	p.pushes(table, 0, 0, 1)
	p.pushes(table, 1, 2, 3)
	l, _ := p.all(table, 3)
	l = l[:cap(l)]
	for i := range l {
		l[i] = -7
	}
	p.lists(table, 3, 2, 0)
	for i := range table {
		table[i] = sp(-1, 0)
	}
	p.same("the table is changed")
	p.refusesAll(table, 3, api.ErrPlace)
	p.refusesPop(table, 3, api.ErrPlace)
	table = ats(2, 1, 1)
	p.lists(table, 3, 2, 0)
	p.pops(table, 3, 1, 2)
	p.pops(table, 1, 0, 0)
}

// R1: the longest list that an arena has ends, and it is told when it goes round.
func TestLongLists(t *testing.T) {
	a, _ := arena.Of(cursors(make([]int, maxWords)...))
	table := make([]api.Span, maxWords)
	for i := range table {
		table[i] = sp(i*5%maxWords, 1)
	}
	top := 0
	for i := range table {
		got, err := thread.Push(a, table, top, i)
		if got != i+1 || err != api.OK {
			t.Fatalf("Push of %d: %d %d", i, got, err)
		}
		top = got
	}
	l, err := thread.All(a, table, top)
	if err != api.OK || len(l) != maxWords {
		t.Fatalf("All: %d places, %d", len(l), err)
	}
	for i, place := range l {
		if place != maxWords-1-i {
			t.Fatalf("the object %d of the list: %d", i, place)
		}
	}
	if w, _ := a.Read(5); w != wordOf(hd(0, 0, 0, false, 1)) {
		t.Fatalf("the word at the second place of the table: %#x", w)
	}
	thread.Push(a, table, top, 0)
	if l, err := thread.All(a, table, top); err != api.ErrForm || l != nil {
		t.Fatalf("All of a list that goes round: %d places, %d", len(l), err)
	}
	for place := maxWords - 1; place >= 0; place-- {
		next, i, err := thread.Pop(a, table, top)
		if i != place || err != api.OK {
			t.Fatalf("Pop: %d %d, want %d", i, err, place)
		}
		top = next
	}
	if top != maxWords {
		t.Fatalf("the top behind the last one, that leads to the first one: %d", top)
	}
}

// Promise 12.1: in a table of more places than a cursor may be a place is pushed all the same, but nothing upon it.
func TestTablesBeyondTheGreatestCursor(t *testing.T) {
	p := pairOf(t, cursors(0, 0, 0))
	table := slices.Repeat(ats(0), maxCursor+3)
	table[maxCursor-1].At, table[maxCursor].At = 1, 2
	p.pushes(table, 0, maxCursor-1, maxCursor)
	p.pushes(table, maxCursor, maxCursor, maxCursor+1)
	p.refusesPush(table, maxCursor+1, 0, api.ErrArg)
	p.lists(table, maxCursor+1, maxCursor, maxCursor-1)
	p.pops(table, maxCursor+1, maxCursor, maxCursor)
	p.pops(table, maxCursor, 0, maxCursor-1)
	p.pushes(table, 5, maxCursor+2, maxCursor+3)
	p.refusesPush(table, 5, maxCursor+3, api.ErrPlace)
	p.refusesPop(table, maxCursor+4, api.ErrPlace)
	p.refusesAll(table, maxCursor+4, api.ErrPlace)
}
