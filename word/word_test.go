package word_test

import (
	"math"
	"strings"
	"testing"

	"triforium/api"
	"triforium/word"
)

const all = ^uint64(0)

// samples are words with few, many and all bits, at both ends and between.
var samples = []uint64{0, 1, 2, 8, 0xABC, 1 << 31, 1 << 32, 1 << 63, 1<<63 | 1, 0x0123456789abcdef, 0xfedcba9876543210, 0x5555555555555555, 0xaaaaaaaaaaaaaaaa, all - 1, all >> 1, all}

// noParts are pairs that name no part of a word.
var noParts = []struct{ at, n int }{
	{-1, 1}, {-1, 64}, {-1, 2}, {-64, 64}, {math.MinInt, 1}, {math.MinInt, math.MaxInt}, {math.MinInt, math.MinInt},
	{0, 0}, {5, 0}, {63, 0}, {64, 0}, {0, -1}, {5, -1}, {0, math.MinInt}, {63, math.MinInt},
	{0, 65}, {1, 64}, {60, 5}, {63, 2}, {64, 1}, {65, 1}, {65, -1}, {100, -50},
	{math.MaxInt, 1}, {math.MaxInt, math.MaxInt}, {1, math.MaxInt}, {63, math.MaxInt}, {0, math.MaxInt}, {math.MaxInt, math.MinInt}, {math.MaxInt, -1}, {math.MaxInt - 3, 64},
}

// slowGet builds a part's number bit by bit, as promise 1.1 says it.
func slowGet(w uint64, at, n int) uint64 {
	var x uint64
	for i := 0; i < n; i++ {
		if w&(uint64(1)<<uint(at+i)) != 0 {
			x += uint64(1) << uint(i)
		}
	}
	return x
}

// slowPut sets a part bit by bit, as promise 1.1 says it.
func slowPut(w uint64, at, n int, x uint64) uint64 {
	for i := 0; i < n; i++ {
		bit := uint64(1) << uint(at+i)
		w &^= bit
		if x&(uint64(1)<<uint(i)) != 0 {
			w |= bit
		}
	}
	return w
}

func eachPart(do func(at, n int)) {
	for at := 0; at < 64; at++ {
		for n := 1; at+n <= 64; n++ {
			do(at, n)
		}
	}
}

func greatest(n int) uint64 {
	if n == 64 {
		return all
	}
	return uint64(1)<<uint(n) - 1
}

// Promise 1.1, Get.
func TestGetTellsThePartsOfAWord(t *testing.T) {
	cases := []struct {
		w     uint64
		at, n int
		want  uint64
	}{
		{0xABC, 4, 4, 11}, {0xABC, 0, 4, 12}, {0xABC, 8, 4, 10}, {0xABC, 12, 4, 0},
		{all, 0, 64, all}, {0xABC, 0, 64, 0xABC}, {1 << 63, 63, 1, 1}, {all >> 1, 63, 1, 0},
		{0xf000000000000000, 60, 4, 15}, {0xfedcba9876543210, 32, 32, 0xfedcba98}, {0, 0, 1, 0}, {1, 0, 1, 1},
	}
	for _, c := range cases {
		if x, ok := word.Get(c.w, c.at, c.n); !ok || x != c.want {
			t.Errorf("Get(%#x, %d, %d): %#x %v, want %#x", c.w, c.at, c.n, x, ok, c.want)
		}
	}
	for _, w := range samples {
		eachPart(func(at, n int) {
			if x, ok := word.Get(w, at, n); !ok || x != slowGet(w, at, n) {
				t.Errorf("Get(%#x, %d, %d): %#x %v, want %#x", w, at, n, x, ok, slowGet(w, at, n))
			}
		})
	}
}

// Promise 1.1, Get of what is no part.
func TestGetRefusesWhatIsNoPart(t *testing.T) {
	for _, p := range noParts {
		for _, w := range samples {
			if x, ok := word.Get(w, p.at, p.n); ok || x != 0 {
				t.Errorf("Get(%#x, %d, %d): %#x %v, want 0 false", w, p.at, p.n, x, ok)
			}
		}
	}
}

// Promise 1.1, Put.
func TestPutSetsThePartsOfAWord(t *testing.T) {
	cases := []struct {
		w     uint64
		at, n int
		x     uint64
		want  uint64
	}{
		{0xABC, 0, 4, 1, 0xAB1}, {0xABC, 4, 4, 0, 0xA0C}, {0xABC, 12, 4, 15, 0xFABC}, {0, 60, 4, 15, 0xf000000000000000},
		{all, 60, 4, 0, all >> 4}, {all, 0, 64, 0, 0}, {0, 0, 64, all, all}, {5, 0, 64, 7, 7}, {0, 63, 1, 1, 1 << 63}, {all, 63, 1, 0, all >> 1},
	}
	for _, c := range cases {
		if w, ok := word.Put(c.w, c.at, c.n, c.x); !ok || w != c.want {
			t.Errorf("Put(%#x, %d, %d, %#x): %#x %v, want %#x", c.w, c.at, c.n, c.x, w, ok, c.want)
		}
	}
	for _, w := range samples {
		eachPart(func(at, n int) {
			for _, x := range []uint64{0, 1, greatest(n) / 2, greatest(n)} {
				if got, ok := word.Put(w, at, n, x); !ok || got != slowPut(w, at, n, x) {
					t.Errorf("Put(%#x, %d, %d, %#x): %#x %v, want %#x", w, at, n, x, got, ok, slowPut(w, at, n, x))
				}
			}
		})
	}
}

// Promise 1.1, Put of what is no part, whatever is put.
func TestPutRefusesWhatIsNoPart(t *testing.T) {
	for _, p := range noParts {
		for _, w := range samples {
			for _, x := range []uint64{0, 1, all} {
				if got, ok := word.Put(w, p.at, p.n, x); ok || got != 0 {
					t.Errorf("Put(%#x, %d, %d, %#x): %#x %v, want 0 false", w, p.at, p.n, x, got, ok)
				}
			}
		}
	}
}

// Promise 1.1, Put of numbers that a part does not hold; a part of 64 bits holds all.
func TestPutRefusesWhatDoesNotFit(t *testing.T) {
	if w, ok := word.Put(0, 60, 4, 16); ok || w != 0 {
		t.Errorf("Put(0, 60, 4, 16): %#x %v, want 0 false", w, ok)
	}
	for _, w := range samples {
		eachPart(func(at, n int) {
			if n == 64 {
				return
			}
			for _, x := range []uint64{greatest(n) + 1, greatest(n) + 2, uint64(1) << 63, all - 1, all} {
				if x <= greatest(n) {
					continue
				}
				if got, ok := word.Put(w, at, n, x); ok || got != 0 {
					t.Errorf("Put(%#x, %d, %d, %#x): %#x %v, want 0 false", w, at, n, x, got, ok)
				}
			}
		})
	}
	for _, x := range samples {
		if got, ok := word.Put(0xABC, 0, 64, x); !ok || got != x {
			t.Errorf("Put(0xABC, 0, 64, %#x): %#x %v", x, got, ok)
		}
	}
}

// Promise 1.2.
func TestOnesLowHigh(t *testing.T) {
	cases := []struct {
		w               uint64
		ones, low, high int
	}{
		{0, 0, -1, -1}, {1, 1, 0, 0}, {7, 3, 0, 2}, {8, 1, 3, 3}, {12, 2, 2, 3}, {0xABC, 7, 2, 11},
		{1 << 63, 1, 63, 63}, {1<<63 | 1, 2, 0, 63}, {all, 64, 0, 63}, {all - 1, 63, 1, 63}, {all >> 1, 63, 0, 62},
		{1<<32 | 1<<31, 2, 31, 32}, {0x5555555555555555, 32, 0, 62}, {0xaaaaaaaaaaaaaaaa, 32, 1, 63},
	}
	for _, c := range cases {
		if n := word.Ones(c.w); n != c.ones {
			t.Errorf("Ones(%#x): %d, want %d", c.w, n, c.ones)
		}
		if n := word.Low(c.w); n != c.low {
			t.Errorf("Low(%#x): %d, want %d", c.w, n, c.low)
		}
		if n := word.High(c.w); n != c.high {
			t.Errorf("High(%#x): %d, want %d", c.w, n, c.high)
		}
	}
}

// Promise 1.2, of every word of one row of bits.
func TestOnesLowHighOfEachRowOfBits(t *testing.T) {
	eachPart(func(at, n int) {
		w := greatest(n) << uint(at)
		if word.Ones(w) != n || word.Low(w) != at || word.High(w) != at+n-1 {
			t.Errorf("%#x: %d ones, low %d, high %d", w, word.Ones(w), word.Low(w), word.High(w))
		}
	})
}

// Promise 1.3, Hex.
func TestHex(t *testing.T) {
	cases := []struct {
		w    uint64
		want string
	}{
		{0, "0000000000000000"}, {1, "0000000000000001"}, {255, "00000000000000ff"}, {0xABC, "0000000000000abc"},
		{0x0123456789abcdef, "0123456789abcdef"}, {0xfedcba9876543210, "fedcba9876543210"}, {1 << 63, "8000000000000000"}, {all, "ffffffffffffffff"},
	}
	for _, c := range cases {
		if s := word.Hex(c.w); s != c.want {
			t.Errorf("Hex(%#x): %q, want %q", c.w, s, c.want)
		}
		if w, err := word.Read(c.want); err != api.OK || w != c.w {
			t.Errorf("Read(%q): %#x %d, want %#x", c.want, w, err, c.w)
		}
	}
}

// Promise 1.3, Read of what Hex tells, each digit at each place.
func TestReadOfHexIsTheWord(t *testing.T) {
	for at := 0; at < 64; at += 4 {
		for d := uint64(0); d < 16; d++ {
			w := d << uint(at)
			if got, err := word.Read(word.Hex(w)); err != api.OK || got != w {
				t.Errorf("Read(Hex(%#x)): %#x %d", w, got, err)
			}
		}
	}
	for _, w := range samples {
		if got, err := word.Read(word.Hex(w)); err != api.OK || got != w {
			t.Errorf("Read(Hex(%#x)): %#x %d", w, got, err)
		}
	}
}

// Promise 1.3, Read of what is no word's Hex.
func TestReadRefusesOtherTexts(t *testing.T) {
	for n := 0; n < 40; n++ {
		if n == 16 {
			continue
		}
		refuse(t, strings.Repeat("f", n))
		refuse(t, strings.Repeat("0", n))
	}
	for _, s := range []string{
		"00000000000000FF", "00000000000000fF", "ABCDEF0000000000", "FFFFFFFFFFFFFFFF", "A000000000000000",
		"0x000000000000ff", "-000000000000001", "+000000000000001", " 000000000000001", "000000000000001 ", "0000 00000000001", "0000_0000_0000_1", "000000000000001\n",
		"00000000000000é", "000000000000001\x00", "\xff\xff\xff\xff\xff\xff\xff\xff\xff\xff\xff\xff\xff\xff\xff\xff",
	} {
		refuse(t, s)
	}
}

// Promise 1.3, Read of each byte at each place.
func TestReadKnowsSixteenDigits(t *testing.T) {
	for i := 0; i < 16; i++ {
		for c := 0; c < 256; c++ {
			text := []byte("0000000000000000")
			text[i] = byte(c)
			d := strings.IndexByte("0123456789abcdef", byte(c))
			if d < 0 {
				refuse(t, string(text))
				continue
			}
			want := uint64(d) << uint(60-4*i)
			if w, err := word.Read(string(text)); err != api.OK || w != want {
				t.Errorf("Read(%q): %#x %d, want %#x", text, w, err, want)
			}
		}
	}
}

func refuse(t *testing.T, s string) {
	t.Helper()
	if w, err := word.Read(s); err != api.ErrForm || w != 0 {
		t.Errorf("Read(%q): %#x %d, want 0 and ErrForm", s, w, err)
	}
}

// Promise 1.4.
func TestWhatWasPutIsGotAndAllElseStays(t *testing.T) {
	for _, w := range samples {
		eachPart(func(at, n int) {
			for _, x := range []uint64{0, 1, greatest(n)} {
				put, ok := word.Put(w, at, n, x)
				if !ok {
					t.Fatalf("Put(%#x, %d, %d, %#x): false", w, at, n, x)
				}
				if got, ok := word.Get(put, at, n); !ok || got != x {
					t.Errorf("Get behind Put(%#x, %d, %d, %#x): %#x %v", w, at, n, x, got, ok)
				}
				stays(t, w, put, 0, at)
				stays(t, w, put, at+n, 64-at-n)
			}
		})
	}
}

// stays asks that a part, if there is one, is the same in both words.
func stays(t *testing.T, old, now uint64, at, n int) {
	t.Helper()
	a, ok := word.Get(old, at, n)
	b, is := word.Get(now, at, n)
	if ok != is || ok != (n >= 1) || a != b {
		t.Errorf("part %d, %d of %#x: %#x %v, of %#x: %#x %v", at, n, old, a, ok, now, b, is)
	}
}
