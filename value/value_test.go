package value_test

import (
	"math"
	"math/big"
	"strconv"
	"testing"

	"triforium/api"
	"triforium/value"
)

// The chapter's numbers, in digits: a limit or a kind that is changed in api would be told here.
const (
	minImm = -2305843009213693952
	maxImm = 2305843009213693951
	maxAt  = 1099511627776

	kindNil = 0
	kindImm = 1
	kindRef = 2
)

const all = ^uint64(0)

func val(kind int, x int64) api.Val { return api.Val{Kind: kind, X: x} }

// numbers are X of all sizes and both signs: around each power of two, at both ends of what an X may be, and one beyond.
func numbers() []int64 {
	l := []int64{0, 7, -7, 22, 100, -100, 12345678901, -12345678901, math.MinInt64, math.MinInt64 + 1, math.MaxInt64, math.MaxInt64 - 1}
	for bit := 0; bit < 63; bit++ {
		for d := int64(-2); d <= 2; d++ {
			l = append(l, int64(1)<<bit+d, -int64(1)<<bit+d)
		}
	}
	for _, x := range []int64{minImm, maxImm, maxAt} {
		l = append(l, x-1, x, x+1)
	}
	return l
}

// otherKinds are those of which no value is; some are one of a kind, if they are cut to fewer bits.
var otherKinds = []int{-1, -2, -3, 3, 4, 5, 6, 7, 8, 256, 257, 258, 1 << 32, 1<<32 + 1, 1<<32 + 2, 1 << 62, 1<<62 + 1, 1<<62 + 2, math.MinInt, math.MinInt + 1, math.MinInt + 2, math.MaxInt}

// mayBe tells as the chapter's section Words does.
func mayBe(v api.Val) bool {
	switch v.Kind {
	case kindNil:
		return v.X == 0
	case kindImm:
		return v.X >= minImm && v.X <= maxImm
	case kindRef:
		return v.X >= 0 && v.X <= maxAt
	}
	return false
}

// values are values of all kinds, those that may be and those that may not.
func values() []api.Val {
	var l []api.Val
	for _, x := range numbers() {
		for _, kind := range []int{kindNil, kindImm, kindRef} {
			l = append(l, val(kind, x))
		}
		for _, kind := range otherKinds {
			l = append(l, val(kind, x))
		}
	}
	return l
}

// wordOf is the word of a value that may be, by numbers of any size: 4 times X and so much, modulo 2^64.
func wordOf(v api.Val) uint64 {
	if v.Kind == kindNil {
		return 0
	}
	n := big.NewInt(v.X)
	n.Mul(n, big.NewInt(4))
	n.Add(n, big.NewInt(int64(v.Kind)))
	return n.Mod(n, new(big.Int).Lsh(big.NewInt(1), 64)).Uint64()
}

// valueOf is the value whose word w is, by numbers of any size: of the immediates and the references whose words could be w, the one that may be.
func valueOf(w uint64) (api.Val, bool) {
	if w == 0 {
		return val(kindNil, 0), true
	}
	whole := new(big.Int).SetUint64(w)
	below := new(big.Int).Sub(whole, new(big.Int).Lsh(big.NewInt(1), 64))
	for _, kind := range []int{kindImm, kindRef} {
		for _, n := range []*big.Int{whole, below} {
			x, rest := new(big.Int), new(big.Int)
			x.DivMod(new(big.Int).Sub(n, big.NewInt(int64(kind))), big.NewInt(4), rest)
			if rest.Sign() != 0 || !x.IsInt64() {
				continue
			}
			if v := val(kind, x.Int64()); mayBe(v) {
				return v, true
			}
		}
	}
	return api.Val{}, false
}

// words are words of all tags and sizes.
func words() []uint64 {
	l := []uint64{0x0123456789abcdef, 0xfedcba9876543210, 0x5555555555555555, 0xaaaaaaaaaaaaaaaa}
	for w := uint64(0); w < 70; w++ {
		l = append(l, w, all-w)
	}
	for bit := 2; bit < 64; bit++ {
		for d := uint64(0); d < 8; d++ {
			l = append(l, uint64(1)<<bit+d, uint64(1)<<bit-d, all-uint64(1)<<bit+d, all<<bit+d)
		}
	}
	for d := uint64(0); d < 20; d++ {
		l = append(l, 4*maxAt+d, 4*maxAt-d, 1<<63+d, 1<<63-d)
	}
	return l
}

// The chapter's examples.
func TestExamples(t *testing.T) {
	if w, err := value.Enc(val(kindImm, -1)); err != api.OK || w != 18446744073709551613 {
		t.Errorf("Enc of the immediate -1: %d %d", w, err)
	}
	if v, err := value.Dec(3); err != api.ErrTag || v != (api.Val{}) {
		t.Errorf("Dec(3): %v %d", v, err)
	}
	if w, err := value.Enc(val(kindRef, 5)); err != api.OK || w != 22 {
		t.Errorf("Enc of the reference 5: %d %d", w, err)
	}
}

// Promise 6.1, Enc and Dec: both ends of each kind, written out.
func TestEndsOfEachKind(t *testing.T) {
	cases := []struct {
		v api.Val
		w uint64
	}{
		{val(kindNil, 0), 0},
		{val(kindImm, 0), 1}, {val(kindImm, 1), 5}, {val(kindImm, -1), 0xfffffffffffffffd}, {val(kindImm, -2), 0xfffffffffffffff9}, {val(kindImm, 5), 21},
		{val(kindImm, minImm), 0x8000000000000001}, {val(kindImm, minImm+1), 0x8000000000000005},
		{val(kindImm, maxImm), 0x7ffffffffffffffd}, {val(kindImm, maxImm-1), 0x7ffffffffffffff9},
		{val(kindImm, maxAt), 0x40000000001}, {val(kindImm, maxAt+1), 0x40000000005}, {val(kindImm, -maxAt), 0xfffffc0000000001},
		{val(kindRef, 0), 2}, {val(kindRef, 1), 6}, {val(kindRef, 5), 22},
		{val(kindRef, maxAt), 0x40000000002}, {val(kindRef, maxAt-1), 0x3fffffffffe},
	}
	for _, c := range cases {
		if w, err := value.Enc(c.v); err != api.OK || w != c.w {
			t.Errorf("Enc(%v): %#x %d, want %#x", c.v, w, err, c.w)
		}
		if v, err := value.Dec(c.w); err != api.OK || v != c.v {
			t.Errorf("Dec(%#x): %v %d, want %v", c.w, v, err, c.v)
		}
	}
}

// Promise 6.1, Enc of values that may be.
func TestEncTellsTheWord(t *testing.T) {
	for _, v := range values() {
		if !mayBe(v) {
			continue
		}
		if w, err := value.Enc(v); err != api.OK || w != wordOf(v) {
			t.Errorf("Enc(%v): %#x %d, want %#x", v, w, err, wordOf(v))
		}
	}
}

// Promise 6.1, Enc of values that may not be.
func TestEncRefusesWhatMayNotBe(t *testing.T) {
	wrong := []api.Val{
		val(kindNil, 1), val(kindNil, -1), val(kindNil, 4), val(kindNil, math.MinInt64), val(kindNil, math.MaxInt64), val(kindNil, 1<<62), val(kindNil, 1<<32),
		val(kindImm, minImm-1), val(kindImm, maxImm+1), val(kindImm, math.MinInt64), val(kindImm, math.MaxInt64), val(kindImm, 1<<62), val(kindImm, -1<<62),
		val(kindRef, -1), val(kindRef, maxAt+1), val(kindRef, minImm), val(kindRef, maxImm), val(kindRef, math.MinInt64), val(kindRef, math.MaxInt64), val(kindRef, 1<<62), val(kindRef, 1<<41),
	}
	for _, kind := range otherKinds {
		wrong = append(wrong, val(kind, 0), val(kind, 1), val(kind, -1), val(kind, 5))
	}
	for _, v := range wrong {
		if mayBe(v) {
			t.Fatalf("%v may be", v)
		}
	}
	for _, v := range append(wrong, values()...) {
		if mayBe(v) {
			continue
		}
		if w, err := value.Enc(v); err != api.ErrArg || w != 0 {
			t.Errorf("Enc(%v): %#x %d, want 0 and ErrArg", v, w, err)
		}
	}
}

// Promise 6.1, Dec of any word.
func TestDecTellsTheValue(t *testing.T) {
	for _, w := range words() {
		want, ok := valueOf(w)
		v, err := value.Dec(w)
		if v != want || (err == api.OK) != ok {
			t.Errorf("Dec(%#x): %v %d, want %v %v", w, v, err, want, ok)
		}
		if !ok && err != api.ErrTag {
			t.Errorf("Dec(%#x): %d, want ErrTag", w, err)
		}
	}
}

// noWords are words that no value has: of a tag that is none, of nil with something beside it, of references that are too great or below 0.
var noWords = []uint64{
	3, 7, 11, 0xf, 0x40000000003, 1<<63 + 3, all, all - 4,
	4, 8, 12, 1 << 32, 1 << 42, 1 << 44, 1 << 62, 1 << 63, 1<<63 + 4, all - 3,
	0x40000000006, 0x4000000000a, 0x80000000002, 1<<44 + 2, 1<<61 + 2, 1<<62 + 2, 1<<63 + 2, 1<<63 + 22, all - 1, all - 5, 0xfffffc0000000002, 0x7ffffffffffffffe,
}

// Promise 6.1, Dec of words that no value has.
func TestDecRefusesOtherWords(t *testing.T) {
	for _, w := range noWords {
		if v, err := value.Dec(w); err != api.ErrTag || v != (api.Val{}) {
			t.Errorf("Dec(%#x): %v %d, want ErrTag", w, v, err)
		}
	}
}

// Promise 6.1, Ref of references' words.
func TestRefTellsWhereAReferenceLeads(t *testing.T) {
	cases := []struct {
		w uint64
		x int
	}{{2, 0}, {6, 1}, {22, 5}, {0x3fffffffffe, maxAt - 1}, {0x40000000002, maxAt}, {1<<33 + 2, 1 << 31}, {1<<34 + 2, 1 << 32}}
	for _, c := range cases {
		if x, ok := value.Ref(c.w); !ok || x != c.x {
			t.Errorf("Ref(%#x): %d %v, want %d", c.w, x, ok, c.x)
		}
	}
	for _, n := range numbers() {
		if n < 0 || n > maxAt {
			continue
		}
		if x, ok := value.Ref(4*uint64(n) + 2); !ok || int64(x) != n {
			t.Errorf("Ref(%#x): %d %v, want %d", 4*uint64(n)+2, x, ok, n)
		}
	}
}

// Promise 6.1, Ref of all other words, of nil and of immediates, too.
func TestRefRefusesOtherWords(t *testing.T) {
	wrong := append([]uint64{0, 1, 5, 21, 0x40000000001, 0x7ffffffffffffffd, 0x8000000000000001, 0xfffffffffffffffd}, noWords...)
	for _, w := range words() {
		if v, ok := valueOf(w); !ok || v.Kind != kindRef {
			wrong = append(wrong, w)
		}
	}
	for _, w := range wrong {
		if x, ok := value.Ref(w); ok || x != 0 {
			t.Errorf("Ref(%#x): %d %v, want 0 false", w, x, ok)
		}
	}
}

// Promise 6.2, written out.
func TestTexts(t *testing.T) {
	cases := []struct {
		v    api.Val
		want string
	}{
		{val(kindNil, 0), "nil"},
		{val(kindImm, 0), "0"}, {val(kindImm, 5), "5"}, {val(kindImm, -1), "-1"}, {val(kindImm, 10), "10"}, {val(kindImm, -120), "-120"},
		{val(kindImm, minImm), "-2305843009213693952"}, {val(kindImm, maxImm), "2305843009213693951"},
		{val(kindRef, 0), "@0"}, {val(kindRef, 5), "@5"}, {val(kindRef, 10), "@10"}, {val(kindRef, maxAt), "@1099511627776"},
		{val(kindNil, 1), "?"}, {val(kindNil, -1), "?"}, {val(kindImm, minImm-1), "?"}, {val(kindImm, maxImm+1), "?"}, {val(kindRef, -1), "?"}, {val(kindRef, maxAt+1), "?"},
		{val(3, 0), "?"}, {val(-1, 0), "?"}, {val(3, 5), "?"}, {val(math.MinInt, math.MinInt64), "?"}, {val(math.MaxInt, math.MaxInt64), "?"},
	}
	for _, c := range cases {
		if s := value.Text(c.v); s != c.want {
			t.Errorf("Text(%v): %q, want %q", c.v, s, c.want)
		}
	}
}

// Promise 6.2, of any value.
func TestTextOfAnyValue(t *testing.T) {
	for _, v := range values() {
		want := "?"
		if mayBe(v) {
			want = [3]string{"nil", strconv.FormatInt(v.X, 10), "@" + strconv.FormatInt(v.X, 10)}[v.Kind]
		}
		if s := value.Text(v); s != want {
			t.Errorf("Text(%v): %q, want %q", v, s, want)
		}
	}
}

// Promise 6.3: no two values have one word, and each word tells its value again.
func TestUnlikeValuesHaveUnlikeWords(t *testing.T) {
	of := map[uint64]api.Val{}
	for _, v := range values() {
		if !mayBe(v) {
			continue
		}
		w, err := value.Enc(v)
		if err != api.OK {
			t.Fatalf("Enc(%v): %d", v, err)
		}
		if other, ok := of[w]; ok && other != v {
			t.Errorf("%v and %v have one word, %#x", v, other, w)
		}
		of[w] = v
		if back, err := value.Dec(w); err != api.OK || back != v {
			t.Errorf("Dec(Enc(%v)): %v %d", v, back, err)
		}
	}
}

// Promise 6.1: a word that is read is the one that its value has.
func TestAWordIsThatOfItsValue(t *testing.T) {
	for _, w := range words() {
		v, err := value.Dec(w)
		if err != api.OK {
			continue
		}
		if back, err := value.Enc(v); err != api.OK || back != w {
			t.Errorf("Enc(Dec(%#x)): %#x %d", w, back, err)
		}
	}
}

// R5: the same again, whatever was asked between.
func TestTheSameAgain(t *testing.T) {
	v := val(kindImm, -9)
	w, _ := value.Enc(v)
	text := value.Text(v)
	value.Enc(val(9, 9))
	value.Dec(all)
	value.Ref(22)
	value.Text(val(kindRef, 7))
	if again, err := value.Enc(v); err != api.OK || again != w || value.Text(v) != text {
		t.Errorf("Enc and Text of %v: %#x %d %q, told otherwise again", v, again, err, value.Text(v))
	}
	if again, err := value.Dec(w); err != api.OK || again != v {
		t.Errorf("Dec(%#x): %v %d, told otherwise again", w, again, err)
	}
}
