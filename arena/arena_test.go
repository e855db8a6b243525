package arena_test

import (
	"math"
	"slices"
	"testing"

	"triforium/api"
	"triforium/arena"
)

const all = ^uint64(0)

// counted is n words that all differ, and none of which is 0.
func counted(n int) []uint64 {
	l := make([]uint64, n)
	for i := range l {
		l[i] = all - uint64(i)
	}
	return l
}

func of(t *testing.T, l ...uint64) *arena.Arena {
	t.Helper()
	a, err := arena.Of(l)
	if err != api.OK || a == nil {
		t.Fatalf("Of %d words: %v %d", len(l), a, err)
	}
	return a
}

// holds asks that a has just these words, by all the calls that tell them.
func holds(t *testing.T, a *arena.Arena, want []uint64) {
	t.Helper()
	if got := a.Words(); !slices.Equal(got, want) {
		t.Errorf("Words: %v, want %v", got, want)
	}
	if a.Len() != len(want) {
		t.Fatalf("Len: %d, want %d", a.Len(), len(want))
	}
	for i, w := range want {
		if got, err := a.Read(i); err != api.OK || got != w {
			t.Errorf("Read(%d): %#x %d, want %#x", i, got, err, w)
		}
	}
}

// Promise 2.1, New.
func TestNewTellsAnArenaOfZeroes(t *testing.T) {
	for _, n := range []int{0, 1, 2, 7, 64, 98303, 98304} {
		a, err := arena.New(n)
		if err != api.OK || a == nil {
			t.Fatalf("New(%d): %v %d", n, a, err)
		}
		holds(t, a, make([]uint64, n))
	}
}

// Promise 2.1, New of numbers that are none.
func TestNewRefusesOtherNumbers(t *testing.T) {
	for _, n := range []int{-1, -2, -98304, math.MinInt, 98305, 98306, 1 << 40, math.MaxInt} {
		if a, err := arena.New(n); err != api.ErrArg || a != nil {
			t.Errorf("New(%d): %v %d, want nil and ErrArg", n, a, err)
		}
	}
}

// Promise 2.1, Of.
func TestOfTellsAnArenaOfTheWords(t *testing.T) {
	holds(t, of(t), nil)
	holds(t, of(t, []uint64{}...), nil)
	holds(t, of(t, 0), []uint64{0})
	holds(t, of(t, 1, 2, 3), []uint64{1, 2, 3})
	holds(t, of(t, all, 0, 1<<63, 1), []uint64{all, 0, 1 << 63, 1})
	for _, n := range []int{98303, 98304} {
		holds(t, of(t, counted(n)...), counted(n))
	}
}

// Promise 2.1, Of more words than an arena has.
func TestOfRefusesMoreWords(t *testing.T) {
	for _, n := range []int{98305, 98306, 200000} {
		if a, err := arena.Of(counted(n)); err != api.ErrArg || a != nil {
			t.Errorf("Of %d words: %v %d, want nil and ErrArg", n, a, err)
		}
	}
}

// Promise 2.1 and rule R4: the list is neither kept nor changed, nor what stands behind it.
func TestOfKeepsNoList(t *testing.T) {
	behind := []uint64{1, 2, 3, 4, 5}
	l := behind[:3]
	a := of(t, l...)
	l[1] = 9
	holds(t, a, []uint64{1, 2, 3})
	if err := a.Fill(0, 3, 7); err != api.OK {
		t.Fatalf("Fill: %d", err)
	}
	if !slices.Equal(behind, []uint64{1, 9, 3, 4, 5}) {
		t.Errorf("the list is %v", behind)
	}
}

// Promise 2.1: arenas of one list, and arenas of one size, are apart.
func TestArenasAreApart(t *testing.T) {
	l := []uint64{1, 2}
	a, b := of(t, l...), of(t, l...)
	c, _ := arena.New(2)
	d, _ := arena.New(2)
	for _, x := range []*arena.Arena{a, c} {
		if err := x.Write(0, 8); err != api.OK {
			t.Fatalf("Write: %d", err)
		}
	}
	holds(t, a, []uint64{8, 2})
	holds(t, b, []uint64{1, 2})
	holds(t, c, []uint64{8, 0})
	holds(t, d, []uint64{0, 0})
}

// Promise 2.2, Write, and that it sets one word alone.
func TestWriteSetsOneWord(t *testing.T) {
	for _, n := range []int{1, 2, 5} {
		for at := range n {
			for _, w := range []uint64{0, 1, 1 << 63, all} {
				want := counted(n)
				a := of(t, want...)
				if err := a.Write(at, w); err != api.OK {
					t.Errorf("Write(%d, %#x): %d", at, w, err)
				}
				want[at] = w
				holds(t, a, want)
			}
		}
	}
}

// Promise 2.2, at both ends of the greatest arena.
func TestReadAndWriteAtTheEndsOfTheGreatest(t *testing.T) {
	a, err := arena.New(api.MaxWords)
	if err != api.OK {
		t.Fatalf("New: %d", err)
	}
	want := make([]uint64, api.MaxWords)
	for _, at := range []int{0, api.MaxWords - 1} {
		want[at] = uint64(at) + 5
		if err := a.Write(at, want[at]); err != api.OK {
			t.Errorf("Write(%d): %d", at, err)
		}
	}
	holds(t, a, want)
}

// Promise 2.2, places that are none, of arenas with and without words.
func TestReadAndWriteRefuseOtherPlaces(t *testing.T) {
	for _, n := range []int{0, 1, 3} {
		want := counted(n)
		a := of(t, want...)
		for _, at := range []int{-1, -2, -n - 1, math.MinInt, n, n + 1, 98304, 1 << 40, math.MaxInt} {
			if w, err := a.Read(at); err != api.ErrPlace || w != 0 {
				t.Errorf("Read(%d) of %d: %#x %d, want 0 and ErrPlace", at, n, w, err)
			}
			if err := a.Write(at, 1); err != api.ErrPlace {
				t.Errorf("Write(%d) of %d: %d, want ErrPlace", at, n, err)
			}
		}
		holds(t, a, want)
	}
}

// Promise 2.2 and rule R4: what Words told is new memory.
func TestWordsAreNewMemory(t *testing.T) {
	a := of(t, 1, 2, 3)
	l := a.Words()
	l[0] = 9
	l = append(l, 4)
	holds(t, a, []uint64{1, 2, 3})
	if err := a.Write(1, 7); err != api.OK {
		t.Fatalf("Write: %d", err)
	}
	if !slices.Equal(l, []uint64{9, 2, 3, 4}) {
		t.Errorf("words that were told are %v", l)
	}
	m := a.Words()
	m[2] = 6
	if o := a.Words(); !slices.Equal(o, []uint64{1, 7, 3}) {
		t.Errorf("words told again are %v", o)
	}
}

// moved is what promise 2.3 says of the words l.
func moved(l []uint64, to, from, n int) []uint64 {
	now := slices.Clone(l)
	for i := 0; i < n; i++ {
		now[to+i] = l[from+i]
	}
	return now
}

// Promise 2.3, the chapter's example.
func TestMoveOfTheExample(t *testing.T) {
	a := of(t, 1, 2, 3)
	if err := a.Move(1, 0, 2); err != api.OK {
		t.Errorf("Move(1, 0, 2): %d", err)
	}
	holds(t, a, []uint64{1, 1, 2})
}

// rowError is what promise 2.3 says of n words from each of the places on, in an arena of so many.
func rowError(words, n int, places ...int) api.Errno {
	if n < 0 {
		return api.ErrArg
	}
	for _, at := range places {
		if at < 0 || at > words || at+n > words {
			return api.ErrPlace
		}
	}
	return api.OK
}

// Promise 2.3, Move of all rows, those that meet too, and around the ends.
func TestMoveOfAllRows(t *testing.T) {
	for words := 0; words <= 6; words++ {
		for to := -2; to <= words+2; to++ {
			for from := -2; from <= words+2; from++ {
				for n := -2; n <= words+2; n++ {
					move(t, words, to, from, n)
				}
			}
		}
	}
}

func move(t *testing.T, words, to, from, n int) {
	t.Helper()
	want := counted(words)
	a := of(t, want...)
	err := a.Move(to, from, n)
	if should := rowError(words, n, to, from); err != should {
		t.Errorf("Move(%d, %d, %d) of %d: %d, want %d", to, from, n, words, err, should)
		return
	}
	if err == api.OK {
		want = moved(want, to, from, n)
	}
	if got := a.Words(); !slices.Equal(got, want) {
		t.Errorf("Move(%d, %d, %d) of %d: %v, want %v", to, from, n, words, got, want)
	}
}

// Promise 2.3, Fill of all rows, and around the ends.
func TestFillOfAllRows(t *testing.T) {
	for words := 0; words <= 6; words++ {
		for at := -2; at <= words+2; at++ {
			for n := -2; n <= words+2; n++ {
				for _, w := range []uint64{0, 5, all} {
					fill(t, words, at, n, w)
				}
			}
		}
	}
}

func fill(t *testing.T, words, at, n int, w uint64) {
	t.Helper()
	want := counted(words)
	a := of(t, want...)
	err := a.Fill(at, n, w)
	if should := rowError(words, n, at); err != should {
		t.Errorf("Fill(%d, %d, %#x) of %d: %d, want %d", at, n, w, words, err, should)
		return
	}
	for i := 0; err == api.OK && i < n; i++ {
		want[at+i] = w
	}
	if got := a.Words(); !slices.Equal(got, want) {
		t.Errorf("Fill(%d, %d, %#x) of %d: %v, want %v", at, n, w, words, got, want)
	}
}

// Promise 2.3, numbers whose sum runs past every int; a number below 0 is told ahead of a place.
func TestMoveAndFillOfGreatNumbers(t *testing.T) {
	want := counted(4)
	a := of(t, want...)
	cases := []struct {
		to, from, n int
		want        api.Errno
	}{
		{1, 1, math.MaxInt, api.ErrPlace}, {4, 4, math.MaxInt, api.ErrPlace}, {0, 0, math.MaxInt, api.ErrPlace}, {2, 2, math.MaxInt - 1, api.ErrPlace},
		{math.MaxInt, 0, 1, api.ErrPlace}, {0, math.MaxInt, 1, api.ErrPlace}, {math.MaxInt, math.MaxInt, math.MaxInt, api.ErrPlace}, {math.MaxInt, math.MaxInt, 0, api.ErrPlace},
		{math.MinInt, 0, 0, api.ErrPlace}, {0, math.MinInt, 0, api.ErrPlace}, {math.MinInt, math.MinInt, math.MaxInt, api.ErrPlace}, {-1, 0, 2, api.ErrPlace}, {0, -1, 2, api.ErrPlace},
		{5, 0, 0, api.ErrPlace}, {0, 5, 0, api.ErrPlace}, {1 << 40, 0, 0, api.ErrPlace}, {0, 1 << 40, 0, api.ErrPlace},
		{0, 0, -1, api.ErrArg}, {0, 0, math.MinInt, api.ErrArg}, {-1, 0, -1, api.ErrArg}, {0, -1, -1, api.ErrArg}, {9, 9, -5, api.ErrArg}, {math.MaxInt, math.MinInt, math.MinInt, api.ErrArg},
	}
	for _, c := range cases {
		if err := a.Move(c.to, c.from, c.n); err != c.want {
			t.Errorf("Move(%d, %d, %d): %d, want %d", c.to, c.from, c.n, err, c.want)
		}
	}
	fills := []struct {
		at, n int
		want  api.Errno
	}{
		{0, math.MaxInt, api.ErrPlace}, {1, math.MaxInt, api.ErrPlace}, {4, math.MaxInt, api.ErrPlace}, {2, math.MaxInt - 1, api.ErrPlace},
		{math.MaxInt, 0, api.ErrPlace}, {math.MaxInt, 1, api.ErrPlace}, {math.MaxInt, math.MaxInt, api.ErrPlace}, {1 << 40, 0, api.ErrPlace}, {5, 0, api.ErrPlace},
		{math.MinInt, 0, api.ErrPlace}, {math.MinInt, math.MaxInt, api.ErrPlace}, {-1, 2, api.ErrPlace}, {-1, 0, api.ErrPlace},
		{0, -1, api.ErrArg}, {0, math.MinInt, api.ErrArg}, {-1, -1, api.ErrArg}, {9, -5, api.ErrArg}, {math.MinInt, math.MinInt, api.ErrArg}, {math.MaxInt, -1, api.ErrArg},
	}
	for _, c := range fills {
		if err := a.Fill(c.at, c.n, 7); err != c.want {
			t.Errorf("Fill(%d, %d, 7): %d, want %d", c.at, c.n, err, c.want)
		}
	}
	holds(t, a, want)
}

// Promise 2.3, rows of the greatest arena.
func TestMoveAndFillOfTheGreatest(t *testing.T) {
	want := counted(api.MaxWords)
	a := of(t, want...)
	for _, c := range []struct{ to, from, n int }{{1, 0, api.MaxWords - 1}, {0, 1, api.MaxWords - 1}, {api.MaxSemi, 0, 2 * api.MaxSemi}, {0, 0, api.MaxWords}, {api.MaxWords, api.MaxWords, 0}} {
		if err := a.Move(c.to, c.from, c.n); err != api.OK {
			t.Errorf("Move(%d, %d, %d): %d", c.to, c.from, c.n, err)
		}
		want = moved(want, c.to, c.from, c.n)
		holds(t, a, want)
	}
	if err := a.Move(1, 0, api.MaxWords); err != api.ErrPlace {
		t.Errorf("Move(1, 0, all): %d, want ErrPlace", err)
	}
	if err := a.Move(0, 1, api.MaxWords); err != api.ErrPlace {
		t.Errorf("Move(0, 1, all): %d, want ErrPlace", err)
	}
	holds(t, a, want)
	if err := a.Fill(0, api.MaxWords, 3); err != api.OK {
		t.Errorf("Fill(0, all, 3): %d", err)
	}
	for i := range want {
		want[i] = 3
	}
	holds(t, a, want)
}

// Promise 2.4, of a nil arena and of one that no call made, whatever is asked.
func TestOfNoArena(t *testing.T) {
	var none *arena.Arena
	for _, a := range []*arena.Arena{none, {}, new(arena.Arena)} {
		if a.Len() != 0 || len(a.Words()) != 0 {
			t.Errorf("Len: %d, Words: %v, want 0 and none", a.Len(), a.Words())
		}
		for _, x := range []int{0, 1, -1, 5, math.MaxInt, math.MinInt} {
			if w, err := a.Read(x); err != api.ErrState || w != 0 {
				t.Errorf("Read(%d): %#x %d, want 0 and ErrState", x, w, err)
			}
			if err := a.Write(x, 1); err != api.ErrState {
				t.Errorf("Write(%d): %d, want ErrState", x, err)
			}
			for _, n := range []int{0, 1, -1, math.MinInt, math.MaxInt} {
				if err := a.Fill(x, n, 1); err != api.ErrState {
					t.Errorf("Fill(%d, %d): %d, want ErrState", x, n, err)
				}
				if err := a.Move(x, 0, n); err != api.ErrState {
					t.Errorf("Move(%d, 0, %d): %d, want ErrState", x, n, err)
				}
				if err := a.Move(0, x, n); err != api.ErrState {
					t.Errorf("Move(0, %d, %d): %d, want ErrState", x, n, err)
				}
			}
		}
	}
}

// Promise 2.4: an arena of no words that a call made is one.
func TestAnArenaOfNoWordsIsOne(t *testing.T) {
	a, err := arena.New(0)
	if err != api.OK {
		t.Fatalf("New(0): %d", err)
	}
	for _, x := range []*arena.Arena{a, of(t)} {
		if err := x.Move(0, 0, 0); err != api.OK {
			t.Errorf("Move(0, 0, 0): %d", err)
		}
		if err := x.Fill(0, 0, 1); err != api.OK {
			t.Errorf("Fill(0, 0, 1): %d", err)
		}
		if err := x.Fill(0, 1, 1); err != api.ErrPlace {
			t.Errorf("Fill(0, 1, 1): %d, want ErrPlace", err)
		}
		if _, err := x.Read(0); err != api.ErrPlace {
			t.Errorf("Read(0): %d, want ErrPlace", err)
		}
		holds(t, x, nil)
	}
}
