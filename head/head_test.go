package head_test

import (
	"math"
	"math/big"
	"testing"

	"triforium/api"
	"triforium/head"
	"triforium/value"
)

// The chapter's numbers, in digits: a limit that is changed in api would be told here.
const (
	maxKind   = 31
	maxFields = 4096
	maxRaws   = 4096
	maxCursor = 1048576
	maxAt     = 1099511627776
)

const all = ^uint64(0)

func hd(kind, fields, raws int, mark bool, cursor int) api.Head {
	return api.Head{Kind: kind, Fields: fields, Raws: raws, Mark: mark, Cursor: cursor}
}

// The numbers that a header's may be: both ends, around each power of two, and between.
var (
	kinds   = []int{0, 1, 2, 3, 4, 5, 7, 8, 15, 16, 21, 30, maxKind}
	rows    = []int{0, 1, 2, 3, 255, 256, 257, 1023, 2048, 2730, 4095, maxFields}
	cursors = []int{0, 1, 2, 4096, 65535, 65536, 699050, 1 << 19, maxCursor - 1, maxCursor}
)

// wrong are numbers that none of a header's may be; some are one that may be, if they are cut to fewer bits.
var wrong = []int{
	-1, -2, -5, -31, -32, -4096, -65536, -(1 << 24), -(1 << 32), 1 - (1 << 32), math.MinInt, math.MinInt + 1, math.MinInt / 2,
	maxCursor + 1, 1<<24 - 1, 1 << 24, 1<<24 + 1, 1 << 32, 1<<32 + 1, 1 << 40, 1<<40 + 3, 1 << 62, 1<<62 + 1, math.MaxInt - 1, math.MaxInt,
}

// mayBe tells as the chapter's section Words does.
func mayBe(h api.Head) bool {
	return h.Kind >= 0 && h.Kind <= maxKind &&
		h.Fields >= 0 && h.Fields <= maxFields &&
		h.Raws >= 0 && h.Raws <= maxRaws &&
		h.Cursor >= 0 && h.Cursor <= maxCursor
}

// good are headers that may be, of all numbers together.
func good() []api.Head {
	var l []api.Head
	for _, k := range kinds {
		for _, f := range rows {
			for _, r := range rows {
				for _, c := range cursors {
					l = append(l, hd(k, f, r, false, c), hd(k, f, r, true, c))
				}
			}
		}
	}
	return l
}

// bad are headers that may not be, each for one number, whatever the others are; and some for all of them.
func bad() []api.Head {
	l := []api.Head{hd(-1, -1, -1, false, -1), hd(32, 4097, 4097, true, maxCursor+1)}
	for _, mark := range []bool{false, true} {
		l = append(l,
			hd(maxKind+1, 0, 0, mark, 0), hd(33, 2, 1, mark, 7), hd(63, 2, 1, mark, 7), hd(256, 2, 1, mark, 7), hd(257, 2, 1, mark, 7),
			hd(1, maxFields+1, 0, mark, 0), hd(1, 8191, 1, mark, 7), hd(1, 65535, 1, mark, 7), hd(1, 65536, 1, mark, 7), hd(1, 65537, 1, mark, 7),
			hd(1, 0, maxRaws+1, mark, 0), hd(1, 2, 8191, mark, 7), hd(1, 2, 65535, mark, 7), hd(1, 2, 65536, mark, 7), hd(1, 2, 65537, mark, 7),
			hd(1, 0, 0, mark, maxCursor+1), hd(1, 2, 1, mark, maxCursor+2), hd(1, 2, 1, mark, 2*maxCursor))
		for _, n := range wrong {
			for _, h := range []api.Head{hd(0, 0, 0, mark, 0), hd(maxKind, maxFields, maxRaws, mark, maxCursor), hd(5, 3, 2, mark, 1)} {
				k, f, r, c := h, h, h, h
				k.Kind, f.Fields, r.Raws, c.Cursor = n, n, n, n
				l = append(l, k, f, r, c, hd(n, n, n, mark, n))
			}
		}
	}
	return l
}

// wordOf is the word of a header that may be, by numbers of any size: the sum of its numbers, each times what its lowest bit counts.
func wordOf(h api.Head) uint64 {
	n := big.NewInt(3)
	add := func(x, bit int) { n.Add(n, new(big.Int).Lsh(big.NewInt(int64(x)), uint(bit))) }
	if h.Mark {
		add(1, 2)
	}
	add(h.Kind, 3)
	add(h.Fields, 8)
	add(h.Raws, 24)
	add(h.Cursor, 40)
	return n.Uint64()
}

// headOf is the header whose word w is, by division: the numbers stand in the word as digits of several bases do.
func headOf(w uint64) (api.Head, bool) {
	digit := func(base uint64) int {
		d := w % base
		w /= base
		return int(d)
	}
	tag, mark := digit(4), digit(2)
	h := hd(digit(32), digit(65536), digit(65536), mark == 1, digit(16777216))
	if tag != 3 || !mayBe(h) {
		return api.Head{}, false
	}
	return h, true
}

// words are words of all tags, of headers and of others.
func words() []uint64 {
	l := []uint64{0x0123456789abcdef, 0xfedcba9876543210, 0x5555555555555555, 0xaaaaaaaaaaaaaaaa, 0x7777777777777777, 0x3333333333333333}
	for w := uint64(0); w < 1100; w++ {
		l = append(l, w, all-w, 1<<63+w, 1<<40+w, 1<<24+w)
	}
	for bit := 2; bit < 64; bit++ {
		for d := uint64(0); d < 16; d++ {
			l = append(l, uint64(1)<<bit+d, uint64(1)<<bit-d, all-uint64(1)<<bit+d, all<<bit+d)
		}
	}
	// Words of no rule that is known ahead, of which all bits change from one to the next.
	w := uint64(1)
	for range 20000 {
		w = w*6364136223846793005 + 1442695040888963407
		l = append(l, w, w>>3, w|3, w&0x0fffff0fff0fffff|3)
	}
	return l
}

func refuses(t *testing.T, h api.Head) {
	t.Helper()
	if mayBe(h) {
		t.Fatalf("%v may be", h)
	}
	if w, err := head.Enc(h); err != api.ErrArg || w != 0 {
		t.Errorf("Enc(%v): %#x %d, want 0 and ErrArg", h, w, err)
	}
	if n := head.Size(h); n != 0 {
		t.Errorf("Size(%v): %d, want 0", h, n)
	}
}

func isNone(t *testing.T, w uint64) {
	t.Helper()
	if h, err := head.Dec(w); err != api.ErrTag || h != (api.Head{}) {
		t.Errorf("Dec(%#x): %v %d, want ErrTag", w, h, err)
	}
}

// The chapter's example.
func TestExamples(t *testing.T) {
	if w, err := head.Enc(api.Head{Kind: 1, Fields: 2}); err != api.OK || w != 523 {
		t.Errorf("Enc of Kind 1, Fields 2: %d %d, want 523", w, err)
	}
	if h, err := head.Dec(523); err != api.OK || h != (api.Head{Kind: 1, Fields: 2}) {
		t.Errorf("Dec(523): %v %d", h, err)
	}
}

// Promise 7.1, Enc and Dec: each number alone, and both of its ends, written out.
func TestEachNumberHasItsBits(t *testing.T) {
	cases := []struct {
		h api.Head
		w uint64
	}{
		{api.Head{}, 3},
		{api.Head{Mark: true}, 7},
		{api.Head{Kind: 1}, 0xb}, {api.Head{Kind: maxKind}, 0xfb}, {api.Head{Kind: 16}, 0x83},
		{api.Head{Fields: 1}, 0x103}, {api.Head{Fields: maxFields - 1}, 0xfff03}, {api.Head{Fields: maxFields}, 0x100003},
		{api.Head{Raws: 1}, 0x1000003}, {api.Head{Raws: maxRaws - 1}, 0xfff000003}, {api.Head{Raws: maxRaws}, 0x1000000003},
		{api.Head{Cursor: 1}, 0x10000000003}, {api.Head{Cursor: maxCursor - 1}, 0xfffff0000000003}, {api.Head{Cursor: maxCursor}, 0x1000000000000003},
		{hd(maxKind, maxFields, maxRaws, true, maxCursor), 0x10000010001000ff},
		{hd(0x15, 0x123, 0x456, false, 0x789ab), 0x0789ab0456012300 + 0xab}, {hd(0x15, 0x123, 0x456, true, 0x789ab), 0x0789ab0456012300 + 0xaf},
	}
	for _, c := range cases {
		if w, err := head.Enc(c.h); err != api.OK || w != c.w {
			t.Errorf("Enc(%v): %#x %d, want %#x", c.h, w, err, c.w)
		}
		if h, err := head.Dec(c.w); err != api.OK || h != c.h {
			t.Errorf("Dec(%#x): %v %d, want %v", c.w, h, err, c.h)
		}
	}
}

// Promise 7.1, Enc of headers that may be, and Dec of their words.
func TestEncTellsTheWordAndDecTheHeader(t *testing.T) {
	for _, h := range good() {
		w, err := head.Enc(h)
		if err != api.OK || w != wordOf(h) {
			t.Errorf("Enc(%v): %#x %d, want %#x", h, w, err, wordOf(h))
		}
		if back, err := head.Dec(w); err != api.OK || back != h {
			t.Errorf("Dec(Enc(%v)): %v %d", h, back, err)
		}
	}
}

// Promise 7.1, every number that one of a header's may be.
func TestEveryNumberThatMayBe(t *testing.T) {
	for n := 0; n <= maxCursor; n++ {
		l := []api.Head{{Cursor: n, Mark: n%2 == 0}}
		if n <= maxFields {
			l = append(l, api.Head{Fields: n}, api.Head{Raws: n}, hd(n%32, n, maxRaws-n, n%2 == 0, n))
		}
		if n <= maxKind {
			l = append(l, api.Head{Kind: n}, api.Head{Kind: n, Mark: true})
		}
		for _, h := range l {
			w, err := head.Enc(h)
			back, again := head.Dec(w)
			if err != api.OK || w != wordOf(h) || again != api.OK || back != h {
				t.Fatalf("Enc(%v): %#x %d, want %#x; Dec of it: %v %d", h, w, err, wordOf(h), back, again)
			}
		}
	}
}

// Promise 7.1, Enc and Size of headers that may not be.
func TestEncAndSizeRefuseWhatMayNotBe(t *testing.T) {
	for _, h := range bad() {
		refuses(t, h)
	}
}

// Promise 7.1, Dec of any word.
func TestDecOfAnyWord(t *testing.T) {
	headers, others := 0, 0
	for _, w := range words() {
		want, ok := headOf(w)
		if !ok {
			others++
			isNone(t, w)
			continue
		}
		headers++
		if h, err := head.Dec(w); err != api.OK || h != want {
			t.Errorf("Dec(%#x): %v %d, want %v", w, h, err, want)
		}
		if back, err := head.Enc(want); err != api.OK || back != w {
			t.Errorf("Enc(%v): %#x %d, want %#x", want, back, err, w)
		}
	}
	if headers < 1000 || others < 1000 {
		t.Errorf("%d words of headers, %d others: too few to tell", headers, others)
	}
}

// Promise 7.1, Dec of words with a tag that is no header's: 523's other bits, and all others that are 0.
func TestDecRefusesOtherTags(t *testing.T) {
	for tag := uint64(0); tag < 3; tag++ {
		for _, rest := range []uint64{0, 4, 8, 520, 0x1000000000000000, 0x10000010001000fc} {
			isNone(t, rest+tag)
		}
	}
	isNone(t, 5)
}

// Promise 7.1, Dec of words whose bits tell a number that is too great: just above what may be, and the greatest one that the bits hold.
func TestDecRefusesNumbersThatAreTooGreat(t *testing.T) {
	for _, rest := range []uint64{3, 7, 523, 0xff} {
		for _, n := range []uint64{maxFields + 1, maxFields + 2, 8191, 8192, 3 * 4096, 1 << 15, 65535} {
			isNone(t, rest%256+n<<8)
			isNone(t, rest+n<<24)
		}
		for _, n := range []uint64{maxCursor + 1, maxCursor + 2, 1<<21 - 1, 1 << 21, 1 << 22, 1 << 23, 1<<24 - 1} {
			isNone(t, rest+n<<40)
		}
	}
	isNone(t, all)
}

// Promise 7.1, Size of headers that may be: neither kind, mark nor cursor has a word.
func TestSizes(t *testing.T) {
	cases := []struct {
		h    api.Head
		want int
	}{
		{api.Head{}, 1}, {api.Head{Kind: 1, Fields: 2}, 3}, {api.Head{Raws: 2}, 3}, {api.Head{Fields: 2, Raws: 3}, 6}, {hd(31, 2, 3, true, maxCursor), 6},
		{api.Head{Fields: maxFields}, 4097}, {api.Head{Raws: maxRaws}, 4097}, {hd(maxKind, maxFields, maxRaws, true, maxCursor), 8193}, {api.Head{Cursor: 9}, 1}, {api.Head{Kind: maxKind}, 1},
	}
	for _, c := range cases {
		if n := head.Size(c.h); n != c.want {
			t.Errorf("Size(%v): %d, want %d", c.h, n, c.want)
		}
	}
	for _, h := range good() {
		if n := head.Size(h); n != 1+h.Fields+h.Raws {
			t.Errorf("Size(%v): %d, want %d", h, n, 1+h.Fields+h.Raws)
		}
	}
}

// places are those of all sizes to which a reference leads.
func places() []int {
	l := []int{0, 1, 2, 3, 5, 9, 1000, 98303, maxAt - 1, maxAt}
	for bit := 2; bit < 40; bit++ {
		l = append(l, 1<<bit-1, 1<<bit, 1<<bit+1)
	}
	return l
}

// Promise 7.2, of places to which references lead.
func TestForward(t *testing.T) {
	cases := []struct {
		at int
		w  uint64
	}{{0, 2}, {1, 6}, {9, 38}, {maxAt - 1, 0x3fffffffffe}, {maxAt, 0x40000000002}}
	for _, c := range cases {
		if w, err := head.Forward(c.at); err != api.OK || w != c.w {
			t.Errorf("Forward(%d): %#x %d, want %#x", c.at, w, err, c.w)
		}
	}
	for _, at := range places() {
		w, err := head.Forward(at)
		if err != api.OK || w != 4*uint64(at)+2 {
			t.Errorf("Forward(%d): %#x %d, want %#x", at, w, err, 4*uint64(at)+2)
		}
		if back, ok := head.Forwarded(w); !ok || back != at {
			t.Errorf("Forwarded(%#x): %d %v, want %d", w, back, ok, at)
		}
		isNone(t, w)
	}
}

// Promise 7.2, Forward of what no reference leads to.
func TestForwardRefusesOtherPlaces(t *testing.T) {
	for _, at := range []int{-1, -2, -9, -maxAt, -(1 << 32), math.MinInt, math.MinInt + 1, math.MinInt / 2, math.MinInt / 4, maxAt + 1, maxAt + 2, 2 * maxAt, 1 << 61, 1 << 62, 1<<62 + 9, math.MaxInt - 1, math.MaxInt} {
		if w, err := head.Forward(at); err != api.ErrArg || w != 0 {
			t.Errorf("Forward(%d): %#x %d, want 0 and ErrArg", at, w, err)
		}
	}
}

// Promise 7.2, Forwarded of words that are no reference's: nil, immediates, headers, and references that lead too far.
func TestForwardedRefusesOtherWords(t *testing.T) {
	for _, w := range []uint64{0, 1, 3, 4, 5, 7, 8, 523, 521, 520, 0x40000000001, 0x40000000003, 0x40000000006, 0x80000000002, 1<<62 + 2, 1<<63 + 2, all - 1, all, all - 3, 0x10000010001000ff} {
		if at, ok := head.Forwarded(w); ok || at != 0 {
			t.Errorf("Forwarded(%#x): %d %v, want 0 false", w, at, ok)
		}
	}
}

// Promise 7.2, Forwarded of any word is 6's Ref.
func TestForwardedIsRef(t *testing.T) {
	for _, w := range words() {
		want, is := value.Ref(w)
		if at, ok := head.Forwarded(w); ok != is || at != want {
			t.Errorf("Forwarded(%#x): %d %v, want %d %v", w, at, ok, want, is)
		}
	}
}

// Promise 7.3: what is a header's word is no value's, and the other way round.
func TestNoHeadersWordIsAValues(t *testing.T) {
	for _, h := range good() {
		w, err := head.Enc(h)
		if err != api.OK {
			t.Fatalf("Enc(%v): %d", h, err)
		}
		if v, err := value.Dec(w); err != api.ErrTag {
			t.Errorf("%#x is the word of %v and of the value %v", w, h, v)
		}
		if at, ok := head.Forwarded(w); ok {
			t.Errorf("%#x is the word of %v and forwarded to %d", w, h, at)
		}
	}
	for _, w := range words() {
		if v, err := value.Dec(w); err == api.OK {
			if h, err := head.Dec(w); err == api.OK {
				t.Errorf("%#x is the word of %v and of the value %v", w, h, v)
			}
		}
	}
}

// Promises 7.1 and 7.3: no two headers have one word.
func TestUnlikeHeadersHaveUnlikeWords(t *testing.T) {
	of := map[uint64]api.Head{}
	for _, h := range good() {
		w, err := head.Enc(h)
		if err != api.OK {
			t.Fatalf("Enc(%v): %d", h, err)
		}
		if other, ok := of[w]; ok {
			t.Errorf("%v and %v have one word, %#x", h, other, w)
		}
		of[w] = h
	}
}

// R5: the same again, whatever was asked between.
func TestTheSameAgain(t *testing.T) {
	h := hd(5, 3, 2, true, 77)
	first, _ := head.Enc(h)
	head.Enc(hd(32, 0, 0, false, 0))
	head.Dec(all)
	head.Dec(3)
	head.Forward(-1)
	head.Forwarded(22)
	if w, err := head.Enc(h); err != api.OK || w != first || head.Size(h) != 6 {
		t.Errorf("Enc and Size of %v: %#x %d %d, told otherwise again", h, w, err, head.Size(h))
	}
	if back, err := head.Dec(first); err != api.OK || back != h {
		t.Errorf("Dec(%#x): %v %d, told otherwise again", first, back, err)
	}
}
