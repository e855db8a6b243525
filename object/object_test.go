package object_test

import (
	"math"
	"slices"
	"testing"

	"triforium/api"
	"triforium/arena"
	"triforium/object"
)

// The chapters' numbers, in digits: a limit that is changed in api would be told here.
const (
	maxKind   = 31
	maxFields = 4096
	maxRaws   = 4096
	maxCursor = 1048576
	maxAt     = 1099511627776
)

const all = ^uint64(0)

func hd(kind, fields, raws int, mark bool, cursor int) api.Head {
	return api.Head{Kind: kind, Fields: fields, Raws: raws, Mark: mark, Cursor: cursor}
}

// bad are headers that may not be, each for one number; some would be of as many words as others that may be.
var bad = []api.Head{
	hd(-1, 2, 1, false, 0), hd(maxKind+1, 2, 1, false, 0), hd(256, 2, 1, false, 0), hd(math.MinInt, 2, 1, false, 0), hd(math.MaxInt, 2, 1, true, 0),
	hd(1, -1, 4, false, 0), hd(1, -1, 1, false, 0), hd(1, maxFields+1, 0, false, 0), hd(1, 65538, 1, false, 0), hd(1, math.MinInt, 1, true, 0), hd(1, math.MaxInt, 1, false, 0),
	hd(1, 4, -1, false, 0), hd(1, 1, -1, false, 0), hd(1, 0, maxRaws+1, false, 0), hd(1, 2, 65537, false, 0), hd(1, 2, math.MinInt, true, 0), hd(1, 2, math.MaxInt, false, 0),
	hd(1, 2, 1, false, -1), hd(1, 2, 1, false, maxCursor+1), hd(1, 2, 1, true, 1<<24), hd(1, 2, 1, false, math.MinInt), hd(1, 2, 1, false, math.MaxInt),
	hd(-1, -1, -1, false, -1), hd(math.MaxInt, math.MaxInt, math.MaxInt, true, math.MaxInt),
}

// noHeads are words of no header: values, other words whose lowest bits are not 3, and such of which a number may not be.
var noHeads = []uint64{
	0, 1, 2, 4, 5, 6, 22, 38, 520, 521, 522, all - 1, all - 2, all - 3, all, 1 << 63, 1<<63 + 1,
	3 + (maxFields+1)<<8, 3 + 65535<<8, 3 + (maxRaws+1)<<24, 3 + 65535<<24, 3 + (maxCursor+1)<<40, 3 + 1<<63, 7 + (maxFields+1)<<8,
}

// valueWords are words of values: nil, numbers and references, and the ends of what these may be.
var valueWords = []uint64{0, 1, 2, 5, 6, 22, all - 2, 1<<63 + 1, 1<<63 - 3, 4*(maxAt-1) + 2, 4*maxAt + 2, 0xfffffffffffffff1}

// noValues are words of no value: headers, references that may not be, and others.
var noValues = []uint64{3, 4, 7, 8, 12, 523, 0x10000010001000ff, all, all - 1, all - 3, 4*maxAt + 6, 8*maxAt + 2, 1 << 63, 1<<63 + 2, 1<<63 - 1}

// far are places, and numbers of fields and raw words, at which there is none, however great an arena and an object are.
var far = []int{
	-1, -2, -3, -7, -8193, -98304, math.MinInt, math.MinInt + 1, math.MinInt + 2, math.MinInt + 3, math.MinInt / 2,
	98304, 98305, 1 << 31, 1<<31 - 1, 1 << 32, 1<<32 + 2, -1 << 32, maxAt, maxAt + 1, 1 << 62, math.MaxInt - 3, math.MaxInt - 2, math.MaxInt - 1, math.MaxInt,
}

// row is the words that an arena should have; its methods say what the chapter says, of a plain list.
type row []uint64

func mayBe(h api.Head) bool {
	return h.Kind >= 0 && h.Kind <= maxKind && h.Fields >= 0 && h.Fields <= maxFields && h.Raws >= 0 && h.Raws <= maxRaws && h.Cursor >= 0 && h.Cursor <= maxCursor
}

func wordOf(h api.Head) uint64 {
	w := 3 + uint64(h.Kind)*8 + uint64(h.Fields)*256 + uint64(h.Raws)*256*65536 + uint64(h.Cursor)*256*65536*65536
	if h.Mark {
		w += 4
	}
	return w
}

func headOf(w uint64) (api.Head, bool) {
	h := hd(int(w/8%32), int(w/256%65536), int(w/256/65536%65536), w/4%2 == 1, int(w/256/65536/65536))
	return h, w%4 == 3 && mayBe(h)
}

func isValue(w uint64) bool {
	return w == 0 || w%4 == 1 || w%4 == 2 && w/4 <= maxAt
}

func (r row) head(at int) (api.Head, api.Errno) {
	if at < 0 || at >= len(r) {
		return api.Head{}, api.ErrPlace
	}
	h, ok := headOf(r[at])
	if !ok {
		return api.Head{}, api.ErrTag
	}
	if len(r[at:]) < 1+h.Fields+h.Raws {
		return api.Head{}, api.ErrPlace
	}
	return h, api.OK
}

func (r row) put(at int, h api.Head) api.Errno {
	if !mayBe(h) {
		return api.ErrArg
	}
	if at < 0 || at > len(r) || len(r[at:]) < 1+h.Fields+h.Raws {
		return api.ErrPlace
	}
	for i := range 1 + h.Fields + h.Raws {
		r[at+i] = 0
	}
	r[at] = wordOf(h)
	return api.OK
}

func (r row) setHead(at int, h api.Head) api.Errno {
	old, err := r.head(at)
	if err != api.OK {
		return err
	}
	if !mayBe(h) || h.Fields+h.Raws != old.Fields+old.Raws {
		return api.ErrArg
	}
	r[at] = wordOf(h)
	return api.OK
}

// parts are the words of the fields and of the raw words, which share those of r.
func (r row) parts(at int) (row, row, api.Errno) {
	h, err := r.head(at)
	if err != api.OK {
		return nil, nil, err
	}
	return r[at+1:][:h.Fields], r[at+1+h.Fields:][:h.Raws], api.OK
}

func (r row) part(at int, raw bool) (row, api.Errno) {
	fields, raws, err := r.parts(at)
	if raw {
		return raws, err
	}
	return fields, err
}

func (r row) get(at, i int, raw bool) (uint64, api.Errno) {
	p, err := r.part(at, raw)
	if err != api.OK {
		return 0, err
	}
	if i < 0 || i >= len(p) {
		return 0, api.ErrArg
	}
	return p[i], api.OK
}

func (r row) set(at, i int, w uint64, raw bool) api.Errno {
	if _, err := r.get(at, i, raw); err != api.OK {
		return err
	}
	if !raw && !isValue(w) {
		return api.ErrTag
	}
	p, _ := r.part(at, raw)
	p[i] = w
	return api.OK
}

// pair is an arena, and beside it the words that it should have.
type pair struct {
	t *testing.T
	a *arena.Arena
	r row
}

func pairOf(t *testing.T, l []uint64) *pair {
	t.Helper()
	a, err := arena.Of(l)
	if err != api.OK || a == nil {
		t.Fatalf("no arena of %d words: %d", len(l), err)
	}
	return &pair{t, a, slices.Clone(l)}
}

// noise is n words that differ, of all tags.
func noise(n int) []uint64 {
	l := make([]uint64, n)
	for i := range l {
		l[i] = 0x9e3779b97f4a7c15 * uint64(i+1)
	}
	return l
}

// same asks that the arena has the words that it should have, and no others.
func (p *pair) same(what string) {
	p.t.Helper()
	if l := p.a.Words(); !slices.Equal(l, p.r) {
		for i := range min(len(l), len(p.r)) {
			if l[i] != p.r[i] {
				p.t.Fatalf("%s: the word at %d is %#x, want %#x", what, i, l[i], p.r[i])
			}
		}
		p.t.Fatalf("%s: %d words, want %d", what, len(l), len(p.r))
	}
}

func (p *pair) put(at int, h api.Head) api.Errno {
	p.t.Helper()
	got, want := object.Put(p.a, at, h), p.r.put(at, h)
	if got != want {
		p.t.Fatalf("Put(%d, %v) of %d words: %d, want %d", at, h, len(p.r), got, want)
	}
	p.same("Put")
	return got
}

func (p *pair) head(at int) (api.Head, api.Errno) {
	p.t.Helper()
	h, err := object.Head(p.a, at)
	want, werr := p.r.head(at)
	if err != werr || h != want {
		p.t.Fatalf("Head(%d) of %d words: %v %d, want %v %d", at, len(p.r), h, err, want, werr)
	}
	return h, err
}

func (p *pair) setHead(at int, h api.Head) api.Errno {
	p.t.Helper()
	got, want := object.SetHead(p.a, at, h), p.r.setHead(at, h)
	if got != want {
		p.t.Fatalf("SetHead(%d, %v): %d, want %d", at, h, got, want)
	}
	p.same("SetHead")
	return got
}

func (p *pair) get(at, i int, raw bool) (uint64, api.Errno) {
	p.t.Helper()
	call := object.Field
	if raw {
		call = object.Raw
	}
	w, err := call(p.a, at, i)
	want, werr := p.r.get(at, i, raw)
	if err != werr || w != want {
		p.t.Fatalf("the word %d of the object at %d (raw %v): %#x %d, want %#x %d", i, at, raw, w, err, want, werr)
	}
	return w, err
}

func (p *pair) set(at, i int, w uint64, raw bool) api.Errno {
	p.t.Helper()
	call := object.SetField
	if raw {
		call = object.SetRaw
	}
	got, want := call(p.a, at, i, w), p.r.set(at, i, w, raw)
	if got != want {
		p.t.Fatalf("the word %d of the object at %d (raw %v) set to %#x: %d, want %d", i, at, raw, w, got, want)
	}
	p.same("a word set")
	return got
}

// puts asks that the object stands behind it.
func (p *pair) puts(at int, h api.Head) {
	p.t.Helper()
	if err := p.put(at, h); err != api.OK {
		p.t.Fatalf("Put(%d, %v): %d", at, h, err)
	}
}

// write sets a word of the arena, whatever stands there.
func (p *pair) write(at int, w uint64) {
	p.t.Helper()
	if err := p.a.Write(at, w); err != api.OK {
		p.t.Fatalf("Write(%d): %d", at, err)
	}
	p.r[at] = w
}

// look asks all calls that tell something of the place at, and that none of them changes a word.
func (p *pair) look(at int, places []int) {
	p.t.Helper()
	p.head(at)
	for _, i := range places {
		p.get(at, i, false)
		p.get(at, i, true)
	}
	p.same("a look")
}

// refuses asks that no call finds an object at the place at, and all of them tell the error want: wrong arguments behind the place are not asked.
func (p *pair) refuses(at int, want api.Errno) {
	p.t.Helper()
	if h, err := object.Head(p.a, at); err != want || h != (api.Head{}) {
		p.t.Fatalf("Head(%d): %v %d, want %d", at, h, err, want)
	}
	for _, h := range []api.Head{{}, hd(1, 2, 1, false, 0), hd(1, maxFields, maxRaws, true, 5), bad[0], bad[5], bad[22]} {
		if err := object.SetHead(p.a, at, h); err != want {
			p.t.Fatalf("SetHead(%d, %v): %d, want %d", at, h, err, want)
		}
	}
	for _, i := range []int{0, 1, 2, 3, -1, math.MinInt, math.MaxInt} {
		if w, err := object.Field(p.a, at, i); err != want || w != 0 {
			p.t.Fatalf("Field(%d, %d): %#x %d, want %d", at, i, w, err, want)
		}
		if w, err := object.Raw(p.a, at, i); err != want || w != 0 {
			p.t.Fatalf("Raw(%d, %d): %#x %d, want %d", at, i, w, err, want)
		}
		for _, w := range []uint64{0, 5, 3, all} {
			if err := object.SetField(p.a, at, i, w); err != want {
				p.t.Fatalf("SetField(%d, %d, %#x): %d, want %d", at, i, w, err, want)
			}
			if err := object.SetRaw(p.a, at, i, w); err != want {
				p.t.Fatalf("SetRaw(%d, %d, %#x): %d, want %d", at, i, w, err, want)
			}
		}
	}
	p.same("a refusal")
}

// The chapter's example, and the words of it one by one.
func TestExamples(t *testing.T) {
	p := pairOf(t, []uint64{11, 12, 13, 14, 15, 16, 17, 18})
	p.puts(2, api.Head{Kind: 1, Fields: 2, Raws: 1})
	if l, want := p.a.Words(), []uint64{11, 12, 523 + 1<<24, 0, 0, 0, 17, 18}; !slices.Equal(l, want) {
		t.Fatalf("behind Put: %v, want %v", l, want)
	}
	steps := []api.Errno{
		p.set(2, 0, 1, false), p.set(2, 1, 22, false), p.set(2, 0, 7, true),
		p.setHead(2, api.Head{Kind: 3, Fields: 1, Raws: 2, Mark: true, Cursor: 9}),
	}
	if !slices.Equal(steps, make([]api.Errno, len(steps))) {
		t.Fatalf("steps: %v", steps)
	}
	if l, want := p.a.Words(), []uint64{11, 12, 7 + 3*8 + 1<<8 + 2<<24 + 9<<40, 1, 22, 7, 17, 18}; !slices.Equal(l, want) {
		t.Fatalf("behind all steps: %v, want %v", l, want)
	}
}

// Promise 8.1: the word's error is told as the arena tells it, and ahead of all else.
func TestHeadTellsThePlaceThatIsNone(t *testing.T) {
	for _, n := range []int{0, 1, 2, 5, 8} {
		p := pairOf(t, slices.Repeat([]uint64{3}, n))
		for _, at := range append([]int{n, n + 1, n + 2, n + 7, 8193}, far...) {
			p.refuses(at, api.ErrPlace)
		}
	}
	p := pairOf(t, slices.Repeat([]uint64{3}, 98304))
	for _, at := range far {
		p.refuses(at, api.ErrPlace)
	}
}

// Promise 8.1: a word that is no header's, in front of more words than any object has, and as the last one.
func TestHeadTellsTheWordThatIsNone(t *testing.T) {
	for _, w := range noHeads {
		for _, at := range []int{0, 1, 5} {
			l := noise(9000)
			l[at] = w
			pairOf(t, l).refuses(at, api.ErrTag)
			pairOf(t, l[:at+1]).refuses(at, api.ErrTag)
		}
	}
}

// Promise 8.1: all words of an object must stand in the arena; one less is too few, and none behind it is needed.
func TestHeadTellsTheObjectThatGoesBeyondTheEnd(t *testing.T) {
	for _, h := range []api.Head{
		hd(0, 1, 0, false, 0), hd(0, 0, 1, false, 0), hd(5, 2, 1, true, 7), hd(31, 0, 4, false, maxCursor), hd(31, 4, 0, false, 1),
		hd(1, maxFields, 0, false, 0), hd(1, 0, maxRaws, false, 0), hd(1, maxFields, maxRaws, true, maxCursor),
	} {
		size := 1 + h.Fields + h.Raws
		for _, at := range []int{0, 1, 2, 7} {
			l := noise(at + size + 2)
			l[at] = wordOf(h)
			for _, n := range []int{at + size - 1, at + (size+1)/2, at + 1} {
				pairOf(t, l[:n]).refuses(at, api.ErrPlace)
			}
			for _, n := range []int{at + size, at + size + 1, at + size + 2} {
				p := pairOf(t, l[:n])
				if got, err := p.head(at); err != api.OK || got != h {
					t.Fatalf("Head(%d) of %d words: %v %d, want %v", at, n, got, err, h)
				}
				p.look(at, []int{0, h.Fields - 1, h.Raws - 1, h.Fields, h.Raws})
			}
		}
	}
	// An object of its header alone is all there as the last word.
	p := pairOf(t, []uint64{9, 3})
	if h, err := p.head(1); err != api.OK || h != (api.Head{}) {
		t.Errorf("Head of the last word: %v %d", h, err)
	}
}

// Promise 8.1: each number of a header is told, its mark, too.
func TestHeadTellsEachNumber(t *testing.T) {
	for _, h := range []api.Head{
		{}, {Kind: 1}, {Kind: maxKind}, {Fields: 3}, {Raws: 3}, {Mark: true}, {Cursor: 1}, {Cursor: maxCursor}, hd(7, 2, 3, true, 699050),
	} {
		p := pairOf(t, noise(12))
		p.write(4, wordOf(h))
		if got, err := p.head(4); err != api.OK || got != h {
			t.Errorf("Head of %v: %v %d", h, got, err)
		}
		p.same("Head")
	}
}

// Promise 8.2, Put: where an object of each size has room, and where one word is wanting at either end.
func TestPutAtEachPlace(t *testing.T) {
	for _, h := range []api.Head{{}, hd(1, 1, 0, false, 0), hd(2, 0, 1, true, 3), hd(31, 2, 1, true, maxCursor), hd(0, 1, 3, false, 4096), hd(3, 5, 2, true, 1)} {
		size := 1 + h.Fields + h.Raws
		for n := range 12 {
			for at := -3; at < 15; at++ {
				p := pairOf(t, noise(n))
				err := p.put(at, h)
				if fits := at >= 0 && at+size <= n; fits != (err == api.OK) || !fits && err != api.ErrPlace {
					t.Fatalf("Put(%d, %v) of %d words: %d", at, h, n, err)
				}
			}
		}
		for _, at := range far {
			if err := pairOf(t, noise(12)).put(at, h); err != api.ErrPlace {
				t.Errorf("Put(%d, %v): %d, want ErrPlace", at, h, err)
			}
		}
	}
}

// Promise 8.2, Put: the greatest objects, in the greatest arena, too.
func TestPutOfTheGreatest(t *testing.T) {
	for _, h := range []api.Head{hd(1, maxFields, 0, false, 0), hd(1, 0, maxRaws, false, 0), hd(maxKind, maxFields, maxRaws, true, maxCursor)} {
		size := 1 + h.Fields + h.Raws
		p := pairOf(t, slices.Repeat([]uint64{all}, 98304))
		for _, at := range []int{98304 - size + 1, 98303, 98304, 98305, -1} {
			if err := p.put(at, h); err != api.ErrPlace {
				t.Errorf("Put(%d, %v): %d, want ErrPlace", at, h, err)
			}
		}
		p.puts(98304-size, h)
		p.puts(0, h)
		p.look(0, []int{0, 1, 4095, 4096, 4097, 8192, 8193})
		p.look(98304-size, []int{0, 1, 4095, 4096, 4097, 8192, 8193})
	}
}

// Promise 8.2, Put: the fields are nil and the raw words 0, whatever stood there; what stood there may have been an object.
func TestPutMakesAllOfItNew(t *testing.T) {
	for _, w := range []uint64{all, 3, 1, 22, 1 << 63} {
		p := pairOf(t, slices.Repeat([]uint64{w}, 9))
		p.puts(2, hd(4, 3, 2, false, 0))
		for i := range 3 {
			if got, err := p.get(2, i, false); err != api.OK || got != 0 {
				t.Errorf("field %d: %#x %d, want nil", i, got, err)
			}
		}
		for i := range 2 {
			if got, err := p.get(2, i, true); err != api.OK || got != 0 {
				t.Errorf("raw word %d: %#x %d, want 0", i, got, err)
			}
		}
		for _, at := range []int{0, 1, 8} {
			if got, _ := p.a.Read(at); got != w {
				t.Errorf("the word at %d, beside the object: %#x, want %#x", at, got, w)
			}
		}
		// One in the midst of it, and one upon it.
		p.set(2, 0, 5, false)
		p.set(2, 1, all, true)
		p.puts(4, hd(5, 1, 0, false, 0))
		p.look(2, []int{0, 1, 2, 3})
		p.puts(2, hd(6, 1, 1, true, 2))
		p.look(2, []int{0, 1, 2})
	}
}

// Promise 8.2, Put: a header that may not be is told ahead of an arena that is none, and that ahead of the place.
func TestPutOfHeadersThatMayNotBe(t *testing.T) {
	for _, h := range bad {
		if mayBe(h) {
			t.Fatalf("%v may be", h)
		}
		for _, at := range append([]int{0, 2, 7, 8}, far...) {
			if err := pairOf(t, noise(8)).put(at, h); err != api.ErrArg {
				t.Errorf("Put(%d, %v): %d, want ErrArg", at, h, err)
			}
			for _, a := range nones() {
				if err := object.Put(a, at, h); err != api.ErrArg {
					t.Errorf("Put(%d, %v) in no arena: %d, want ErrArg", at, h, err)
				}
			}
		}
	}
}

func nones() []*arena.Arena {
	return []*arena.Arena{nil, {}, new(arena.Arena)}
}

// Promises 8.1 to 8.3: an arena that is none is told ahead of every place; one of no words has no place.
func TestNoArena(t *testing.T) {
	for _, a := range nones() {
		for _, at := range append([]int{0, 1, 2, 8193}, far...) {
			p := &pair{t, a, nil}
			p.refuses(at, api.ErrState)
			for _, h := range []api.Head{{}, hd(1, 2, 1, true, 4), hd(maxKind, maxFields, maxRaws, true, maxCursor)} {
				if err := object.Put(a, at, h); err != api.ErrState {
					t.Errorf("Put(%d, %v): %d, want ErrState", at, h, err)
				}
			}
			p.same("no arena")
		}
	}
	p := pairOf(t, nil)
	p.refuses(0, api.ErrPlace)
	if err := p.put(0, api.Head{}); err != api.ErrPlace {
		t.Errorf("Put in an arena of no words: %d, want ErrPlace", err)
	}
}

// Promise 8.2, SetHead: each header of as many words is set, and the fields and raw words stay.
func TestSetHeadOfTheSameSize(t *testing.T) {
	for fields := range 5 {
		raws := 4 - fields
		for _, h := range []api.Head{
			hd(0, 4, 0, false, 0), hd(1, 3, 1, true, 0), hd(2, 2, 2, false, 7), hd(maxKind, 1, 3, true, maxCursor), hd(5, 0, 4, false, 4096), hd(0, fields, raws, true, 1),
		} {
			p := pairOf(t, noise(9))
			p.puts(2, hd(9, fields, raws, true, 77))
			for i := range 4 {
				p.write(3+i, uint64(40+i))
			}
			if err := p.setHead(2, h); err != api.OK {
				t.Fatalf("SetHead(2, %v): %d", h, err)
			}
			if got, err := p.head(2); err != api.OK || got != h {
				t.Errorf("behind SetHead(2, %v): %v %d", h, got, err)
			}
			p.look(2, []int{-1, 0, 1, 2, 3, 4, 5})
		}
	}
}

// Promise 8.2, SetHead: a header of more or less words is refused, even where the words would be there, and so is one that may not be.
func TestSetHeadOfOthers(t *testing.T) {
	for _, old := range []api.Head{{}, hd(1, 2, 1, false, 0), hd(1, 1, 2, true, 3), hd(0, 3, 0, false, 0), hd(7, 0, 3, false, 0)} {
		p := pairOf(t, noise(20))
		p.puts(5, old)
		for fields := range 8 {
			for raws := range 8 {
				err := p.setHead(5, hd(1, fields, raws, false, 0))
				if same := fields+raws == old.Fields+old.Raws; same != (err == api.OK) || !same && err != api.ErrArg {
					t.Fatalf("SetHead to %d fields and %d raw words, of %v: %d", fields, raws, old, err)
				}
			}
		}
		for _, h := range append([]api.Head{hd(1, maxFields, maxRaws, false, 0)}, bad...) {
			if err := p.setHead(5, h); err != api.ErrArg {
				t.Errorf("SetHead to %v: %d, want ErrArg", h, err)
			}
		}
	}
	// An object of the greatest size.
	p := pairOf(t, noise(8195))
	p.puts(1, hd(1, maxFields, maxRaws, false, 0))
	for _, h := range []api.Head{hd(1, maxFields, maxRaws-1, false, 0), hd(1, maxFields-1, maxRaws, false, 0), hd(1, maxFields+1, maxRaws-1, false, 0), hd(1, maxFields-1, maxRaws+1, false, 0), {}} {
		if err := p.setHead(1, h); err != api.ErrArg {
			t.Errorf("SetHead to %v: %d, want ErrArg", h, err)
		}
	}
	if err := p.setHead(1, hd(2, maxFields, maxRaws, true, 5)); err != api.OK {
		t.Errorf("SetHead of the greatest: %d", err)
	}
}

// Promise 8.3: each field and each raw word has a place of its own, and just 0 to below their number may be asked.
func TestEachFieldAndRawWord(t *testing.T) {
	for fields := range 5 {
		for raws := range 5 {
			for _, at := range []int{0, 3} {
				p := pairOf(t, noise(at+1+fields+raws))
				p.puts(at, hd(1, fields, raws, true, 6))
				for i := -3; i < 9; i++ {
					if err := p.set(at, i, uint64(4*(i+10)+1), false); (i >= 0 && i < fields) != (err == api.OK) || err != api.OK && err != api.ErrArg {
						t.Fatalf("SetField(%d, %d) of %d fields and %d raw words: %d", at, i, fields, raws, err)
					}
					if err := p.set(at, i, uint64(100+i), true); (i >= 0 && i < raws) != (err == api.OK) || err != api.OK && err != api.ErrArg {
						t.Fatalf("SetRaw(%d, %d) of %d fields and %d raw words: %d", at, i, fields, raws, err)
					}
				}
				for i := range fields {
					if w, err := p.get(at, i, false); err != api.OK || w != uint64(4*(i+10)+1) {
						t.Errorf("Field(%d, %d): %d %d", at, i, w, err)
					}
				}
				for i := range raws {
					if w, err := p.get(at, i, true); err != api.OK || w != uint64(100+i) {
						t.Errorf("Raw(%d, %d): %d %d", at, i, w, err)
					}
				}
				p.look(at, []int{-3, -2, -1, 0, 1, 2, 3, 4, 5, 6, 7, 8})
			}
		}
	}
}

// Promise 8.3: wrong numbers of a field and of a raw word, of objects that have many words ahead and behind; they are told ahead of the word.
func TestFieldsAndRawWordsThatAreNone(t *testing.T) {
	for _, h := range []api.Head{{}, hd(1, 2, 0, false, 0), hd(1, 0, 2, false, 0), hd(1, 3, 2, false, 0), hd(1, 100, 90, false, 0)} {
		p := pairOf(t, noise(1000))
		p.puts(500, h)
		for _, i := range append([]int{h.Fields, h.Fields + 1, h.Fields + h.Raws, h.Fields + h.Raws + 1, 100, 499, -500, -501, 500}, far...) {
			if i >= 0 && i < h.Fields {
				continue
			}
			for _, w := range []uint64{0, 5, 3, all} {
				if err := p.set(500, i, w, false); err != api.ErrArg {
					t.Errorf("SetField(500, %d, %#x) of %v: %d, want ErrArg", i, w, h, err)
				}
			}
			if w, err := p.get(500, i, false); err != api.ErrArg || w != 0 {
				t.Errorf("Field(500, %d) of %v: %#x %d, want ErrArg", i, h, w, err)
			}
		}
		for _, i := range append([]int{h.Raws, h.Raws + 1, h.Fields + h.Raws, h.Fields + h.Raws + 1, 100, 499, -500, -501, 500}, far...) {
			if i >= 0 && i < h.Raws {
				continue
			}
			if err := p.set(500, i, 7, true); err != api.ErrArg {
				t.Errorf("SetRaw(500, %d) of %v: %d, want ErrArg", i, h, err)
			}
			if w, err := p.get(500, i, true); err != api.ErrArg || w != 0 {
				t.Errorf("Raw(500, %d) of %v: %#x %d, want ErrArg", i, h, w, err)
			}
		}
	}
	// The last ones of the greatest object.
	p := pairOf(t, noise(8194))
	p.puts(1, hd(0, maxFields, maxRaws, false, 0))
	for _, i := range []int{0, 1, 4094, 4095} {
		if err := p.set(1, i, uint64(4*i+2), false); err != api.OK {
			t.Errorf("SetField(1, %d): %d", i, err)
		}
		if err := p.set(1, i, uint64(i), true); err != api.OK {
			t.Errorf("SetRaw(1, %d): %d", i, err)
		}
	}
	p.look(1, []int{-1, 0, 1, 4094, 4095, 4096, 4097, 8191, 8192})
}

// Promise 8.3: a field takes values' words alone, a raw word any.
func TestWordsOfFieldsAndRawWords(t *testing.T) {
	p := pairOf(t, noise(8))
	p.puts(2, hd(1, 2, 2, false, 0))
	for _, w := range valueWords {
		if err := p.set(2, 1, w, false); err != api.OK {
			t.Errorf("SetField of %#x: %d", w, err)
		}
		if got, err := p.get(2, 1, false); err != api.OK || got != w {
			t.Errorf("Field behind SetField of %#x: %#x %d", w, got, err)
		}
	}
	for _, w := range noValues {
		if err := p.set(2, 1, w, false); err != api.ErrTag {
			t.Errorf("SetField of %#x: %d, want ErrTag", w, err)
		}
	}
	for _, w := range append(append(noise(50), valueWords...), noValues...) {
		if err := p.set(2, 0, w, true); err != api.OK {
			t.Errorf("SetRaw of %#x: %d", w, err)
		}
		if got, err := p.get(2, 0, true); err != api.OK || got != w {
			t.Errorf("Raw behind SetRaw of %#x: %#x %d", w, got, err)
		}
	}
}

// Promise 8.3: Field tells the word that stands there, even if it is no value's: a raw word becomes a field by SetHead, or the arena is written.
func TestFieldTellsWhateverStandsThere(t *testing.T) {
	for _, w := range append(slices.Clone(noValues), valueWords...) {
		p := pairOf(t, noise(6))
		p.puts(1, hd(1, 1, 2, false, 0))
		p.set(1, 0, w, true)
		p.setHead(1, hd(1, 2, 1, false, 0))
		if got, err := p.get(1, 1, false); err != api.OK || got != w {
			t.Errorf("Field: %#x %d, want %#x", got, err, w)
		}
		p.write(2, w)
		if got, err := p.get(1, 0, false); err != api.OK || got != w {
			t.Errorf("Field: %#x %d, want %#x", got, err, w)
		}
	}
}

// step is what a long row of calls does next: all of it hangs on the number alone.
func step(p *pair, n uint64) {
	p.t.Helper()
	part := func(of uint64) int {
		x := n % of
		n /= of
		return int(x)
	}
	do, at, i := part(8), part(26)-2, part(7)-1
	h := hd(part(33), part(5), part(5), part(2) == 1, part(10)*part(2))
	w := []uint64{0, 5, 22, 3, 523, all, n, n << 2, n<<2 + 1, n<<2 + 2, n<<2 + 3}[part(11)]
	switch do {
	case 0, 1:
		p.put(at, h)
	case 2:
		p.setHead(at, h)
	case 3, 4:
		p.set(at, i, w, false)
	case 5, 6:
		p.set(at, i, w, true)
	default:
		if at >= 0 && at < len(p.r) {
			p.write(at, w)
		}
	}
	p.look(at, []int{i, 0, 3})
}

func play(t *testing.T, seed uint64, steps int) []uint64 {
	t.Helper()
	p := pairOf(t, noise(22))
	n := seed
	for range steps {
		n = n*6364136223846793005 + 1442695040888963407
		step(p, n^n>>29)
	}
	return p.a.Words()
}

// Promise 8.4: what is set is told and nothing else changes, behind any row of calls; objects may lie across one another.
func TestLongRowsOfCalls(t *testing.T) {
	for seed := range uint64(60) {
		play(t, seed, 500)
	}
}

// Promise 8.4: two objects that touch keep apart.
func TestObjectsThatTouch(t *testing.T) {
	p := pairOf(t, noise(10))
	p.puts(1, hd(1, 2, 1, false, 0))
	p.puts(5, hd(2, 1, 2, true, 3))
	for i := range 3 {
		p.set(1, i, uint64(4*i+1), false)
		p.set(5, i, uint64(4*i+2), false)
		p.set(1, i, uint64(i+50), true)
		p.set(5, i, all-uint64(i), true)
	}
	p.setHead(1, hd(3, 3, 0, true, 9))
	want := append(slices.Clone(noise(1)), wordOf(hd(3, 3, 0, true, 9)), 1, 5, 50, wordOf(hd(2, 1, 2, true, 3)), 2, all, all-1, noise(10)[9])
	if l := p.a.Words(); !slices.Equal(l, want) {
		t.Errorf("%v, want %v", l, want)
	}
}

// Rule R5: the same calls on the same words answer the same.
func TestSameAgain(t *testing.T) {
	for seed := range uint64(5) {
		if a, b := play(t, seed, 200), play(t, seed, 200); !slices.Equal(a, b) {
			t.Errorf("the same calls left other words: %v, %v", a, b)
		}
	}
	p, q := pairOf(t, noise(8)), pairOf(t, noise(8))
	p.puts(2, hd(1, 2, 1, false, 0))
	q.puts(0, hd(1, 3, 3, false, 0))
	p.set(2, 0, 5, false)
	if w, err := q.get(0, 2, false); err != api.OK || w != 0 {
		t.Errorf("one arena's field is told of another's: %#x %d", w, err)
	}
}
