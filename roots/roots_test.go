package roots_test

import (
	"math"
	"slices"
	"testing"

	"triforium/api"
	"triforium/roots"
)

const (
	places = 1024    // how many places have handles, in digits: a limit that is changed in api would be told here
	end    = 1 << 40 // the first Gen that is not good
)

func used(gen int, w uint64) api.Slot { return api.Slot{Used: true, Gen: gen, Word: w} }

func free(gen int) api.Slot { return api.Slot{Gen: gen} }

func list(slots ...api.Slot) []api.Slot { return slots }

// notGood are the Gens of slots that are not good: most of those with a great number have a handle that runs past every int, and is small then.
var notGood = []int{
	-1, -2, -1023, -1024, -1025, -end + 1, -end, -end - 1, math.MinInt, math.MinInt + 1, math.MinInt / 2, math.MinInt/1024 + 1,
	end, end + 1, end + 1024, 2 * end, 1 << 53, 1<<53 + end, 1 << 54, 1<<54 + 1, 1 << 61, 1<<62 + 3, math.MaxInt - 1, math.MaxInt,
}

// good are the Gens of slots that are good, at the ends and between.
var good = []int{0, 1, 2, 1023, 1024, 1025, 1 << 20, 1 << 31, 1 << 32, 1<<32 + 1, end / 2, end - 2, end - 1}

// noHandles are numbers that no table has.
var noHandles = []int{
	-1, -2, -1023, -1024, -1025, -2048, -end, -end * places, math.MinInt, math.MinInt + 1, math.MinInt + 1024,
	end * places, end*places + 1, end*places + 1023, 1 << 51, 1 << 60, 1 << 62, math.MaxInt - 1024, math.MaxInt - 1, math.MaxInt,
}

// values are words of values: nil, numbers, references.
var values = []uint64{0, 1, 5, 4*(1<<61-1) + 1, 1<<63 + 1, math.MaxUint64 - 2, 2, 6, 22, 4*end + 2, 4*end - 2}

// noValues are words of no value: other tags, nils with a number, references that go too far, headers.
var noValues = []uint64{3, 4, 7, 8, 11, 523, 4 * end, 4*end + 3, 4*end + 6, 1 << 63, 1<<63 + 2, math.MaxUint64 - 1, math.MaxUint64, math.MaxUint64 - 3}

// slowPlace looks for the handle among those of all places.
func slowPlace(l []api.Slot, h int) (int, bool) {
	for i, s := range l {
		if i < places && s.Used && s.Gen >= 0 && s.Gen < end && i+places*s.Gen == h {
			return i, true
		}
	}
	return 0, false
}

// slowPut goes over the places from the first one on.
func slowPut(l []api.Slot, w uint64) ([]api.Slot, int, api.Errno) {
	slots := slices.Clone(l)
	for i := 0; i < len(l) && i < places; i++ {
		if s := l[i]; !s.Used && s.Gen >= 0 && s.Gen < end {
			slots[i] = used(s.Gen, w)
			return slots, i + places*s.Gen, api.OK
		}
	}
	return slots, 0, api.ErrSlots
}

func slowSet(l []api.Slot, h int, w uint64) ([]api.Slot, api.Errno) {
	slots := slices.Clone(l)
	i, ok := slowPlace(l, h)
	if !ok {
		return slots, api.ErrHandle
	}
	slots[i] = used(l[i].Gen, w)
	return slots, api.OK
}

func slowDrop(l []api.Slot, h int) ([]api.Slot, api.Errno) {
	slots := slices.Clone(l)
	i, ok := slowPlace(l, h)
	if !ok {
		return slots, api.ErrHandle
	}
	slots[i] = free(l[i].Gen + 1)
	return slots, api.OK
}

// slowHandles are those that slowPlace finds of the handles that the places can have.
func slowHandles(l []api.Slot) []int {
	var handles []int
	for i, s := range l {
		if at, ok := slowPlace(l, i+places*s.Gen); ok && at == i {
			handles = append(handles, i+places*s.Gen)
		}
	}
	return handles
}

func slowUsed(l []api.Slot) int {
	unused := func(s api.Slot) bool { return !s.Used }
	return len(slices.DeleteFunc(slices.Clone(l), unused))
}

// slowRight tells by the pools above whether l is right for as many slots as it has; its words and Gens are from there.
func slowRight(l []api.Slot) bool {
	for _, s := range l {
		switch {
		case s.Used && !(slices.Contains(good, s.Gen) && slices.Contains(values, s.Word)):
			return false
		case !s.Used && !(slices.Contains(good, s.Gen) || s.Gen == end):
			return false
		case !s.Used && s.Word != 0:
			return false
		}
	}
	return len(l) >= 1 && len(l) <= places
}

// fresh are n slots, all zero.
func fresh(t *testing.T, n int) []api.Slot {
	t.Helper()
	l, err := roots.New(n)
	if err != api.OK || !slices.Equal(l, make([]api.Slot, n)) {
		t.Fatalf("New(%d): %v %d, want so many slots, all zero, and OK", n, l, err)
	}
	return l
}

// puts asks for the handle of w, and how l stands then.
func puts(t *testing.T, l []api.Slot, w uint64, h int, want []api.Slot) {
	t.Helper()
	if got, to, err := roots.Put(l, w); err != api.OK || to != h || !slices.Equal(got, want) {
		t.Errorf("Put(%v, %d): %v %d %d, want %v %d and OK", l, w, got, to, err, want, h)
	}
}

// isFull asks that no slot is left, and that l is told as it is.
func isFull(t *testing.T, l []api.Slot) {
	t.Helper()
	for _, w := range []uint64{0, 5, 22, 3, math.MaxUint64} {
		if got, h, err := roots.Put(l, w); err != api.ErrSlots || h != 0 || !slices.Equal(got, l) {
			t.Errorf("Put(%v, %d): %v %d %d, want it as it is, 0 and %d", l, w, got, h, err, api.ErrSlots)
		}
	}
}

func gets(t *testing.T, l []api.Slot, h int, want uint64) {
	t.Helper()
	if w, err := roots.Get(l, h); err != api.OK || w != want {
		t.Errorf("Get(%v, %d): %d %d, want %d and OK", l, h, w, err, want)
	}
}

func sets(t *testing.T, l []api.Slot, h int, w uint64, want []api.Slot) {
	t.Helper()
	if got, err := roots.Set(l, h, w); err != api.OK || !slices.Equal(got, want) {
		t.Errorf("Set(%v, %d, %d): %v %d, want %v and OK", l, h, w, got, err, want)
	}
}

func drops(t *testing.T, l []api.Slot, h int, want []api.Slot) {
	t.Helper()
	if got, err := roots.Drop(l, h); err != api.OK || !slices.Equal(got, want) {
		t.Errorf("Drop(%v, %d): %v %d, want %v and OK", l, h, got, err, want)
	}
}

// lacks asks that h is not right, and that l is told as it is.
func lacks(t *testing.T, l []api.Slot, h int) {
	t.Helper()
	if w, err := roots.Get(l, h); err != api.ErrHandle || w != 0 {
		t.Errorf("Get(%v, %d): %d %d, want 0 and %d", l, h, w, err, api.ErrHandle)
	}
	for _, w := range []uint64{0, 9, 3} {
		if got, err := roots.Set(l, h, w); err != api.ErrHandle || !slices.Equal(got, l) {
			t.Errorf("Set(%v, %d, %d): %v %d, want it as it is and %d", l, h, w, got, err, api.ErrHandle)
		}
	}
	if got, err := roots.Drop(l, h); err != api.ErrHandle || !slices.Equal(got, l) {
		t.Errorf("Drop(%v, %d): %v %d, want it as it is and %d", l, h, got, err, api.ErrHandle)
	}
}

func handles(t *testing.T, l []api.Slot, want ...int) {
	t.Helper()
	if got := roots.Handles(l); !slices.Equal(got, want) {
		t.Errorf("Handles(%v): %v, want %v", l, got, want)
	}
}

func count(t *testing.T, l []api.Slot, want int) {
	t.Helper()
	if got := roots.Used(l); got != want {
		t.Errorf("Used(%v): %d, want %d", l, got, want)
	}
}

func right(t *testing.T, l []api.Slot, n int, want bool) {
	t.Helper()
	if roots.Right(l, n) != want {
		t.Errorf("Right(%v, %d): %v", l, n, !want)
	}
}

// The chapter's example.
func TestExample(t *testing.T) {
	l := fresh(t, 1)
	puts(t, l, 5, 0, list(used(0, 5)))
	drops(t, list(used(0, 5)), 0, list(free(1)))
	puts(t, list(free(1)), 9, 1024, list(used(1, 9)))
}

// Promise 14.1, New: of each number of slots that a table may have.
func TestNew(t *testing.T) {
	for n := 1; n <= places; n++ {
		l := fresh(t, n)
		count(t, l, 0)
		handles(t, l)
		right(t, l, n, true)
	}
}

// Promise 14.1, New: no table has so many slots; what runs past 32 bits is not small again.
func TestNewOfOtherNumbers(t *testing.T) {
	for _, n := range []int{0, -1, -2, -1024, places + 1, places + 2, 2 * places, 98304, 1 << 32, 1<<32 + 1, 1 << 40, math.MaxInt, math.MinInt, math.MinInt + 1} {
		if l, err := roots.New(n); err != api.ErrArg || len(l) != 0 {
			t.Errorf("New(%d): %d slots, %d, want none and %d", n, len(l), err, api.ErrArg)
		}
	}
}

// Promise 14.1, Used: all that are, good or not, also where no handle is.
func TestUsed(t *testing.T) {
	count(t, nil, 0)
	count(t, list(), 0)
	count(t, list(free(0)), 0)
	count(t, list(used(0, 5)), 1)
	count(t, list(used(0, 0), free(0), used(1, 0), api.Slot{Word: 5}), 2)
	count(t, list(used(0, 5), free(3), used(7, 5), free(0)), 2)
	for _, gen := range notGood {
		count(t, list(free(gen), used(gen, 5)), 1)
	}
	l := slices.Repeat(list(used(0, 5)), 3*places)
	count(t, l[:places], places)
	count(t, l[:places+1], places+1)
	count(t, l, 3*places)
	count(t, append(make([]api.Slot, places), used(0, 5)), 1)
}

// Promise 14.1, Handles: by the places, not by the numbers.
func TestHandles(t *testing.T) {
	handles(t, nil)
	handles(t, list())
	handles(t, list(free(0), free(7)))
	handles(t, list(used(0, 5)), 0)
	handles(t, list(used(3, 5), used(0, 5), free(0), used(1, 5)), 3072, 1, 1027)
	handles(t, list(free(2), used(end-1, 0), used(1, 3)), 1125899906841601, 1026)
	for _, gen := range good {
		handles(t, list(used(gen, 5)), 1024*gen)
		handles(t, list(free(gen), used(gen, 0), used(0, 3)), 1+1024*gen, 2)
	}
}

// Promise 14.1, Handles: none of a slot that is not good, and none from the 1025th slot on.
func TestHandlesOfOtherSlots(t *testing.T) {
	for _, gen := range notGood {
		handles(t, list(used(gen, 5)))
		handles(t, list(used(0, 5), used(gen, 5), used(1, 5)), 0, 1026)
	}
	l := slices.Repeat(list(used(2, 5)), places+5)
	var want []int
	for i := range places {
		want = append(want, i+2048)
	}
	handles(t, l, want...)
	handles(t, l[:places+1], want...)
	handles(t, l[:places], want...)
	handles(t, l[:places-1], want[:places-1]...)
}

// Promise 14.1, Right: as many slots as are asked, and no other number than a table may have.
func TestRightIsSoLong(t *testing.T) {
	for _, n := range []int{1, 2, 5, places - 1, places} {
		l := slices.Repeat(list(used(3, 5)), n)
		right(t, l, n, true)
		for _, other := range []int{0, -1, -n, n - 1, n + 1, places + n, n + 1<<32, math.MaxInt, math.MinInt} {
			right(t, l, other, false)
		}
	}
	for _, n := range []int{places + 1, places + 2, 2 * places, 1 << 16} {
		right(t, make([]api.Slot, n), n, false)
		right(t, make([]api.Slot, n), places, false)
	}
	right(t, nil, 0, false)
	right(t, list(), 0, false)
	right(t, nil, 1, false)
	right(t, nil, -1, false)
}

// Promise 14.1, Right: what is in use is good, and has a value's word.
func TestRightOfSlotsInUse(t *testing.T) {
	for _, gen := range good {
		for _, w := range values {
			right(t, list(used(gen, w)), 1, true)
			right(t, list(free(0), used(gen, w), free(end)), 3, true)
		}
		for _, w := range noValues {
			right(t, list(used(gen, w)), 1, false)
			right(t, list(free(0), used(gen, w), free(0)), 3, false)
		}
	}
	for _, gen := range notGood {
		for _, w := range values {
			right(t, list(used(gen, w)), 1, false)
		}
	}
}

// Promise 14.1, Right: what is not in use has no word, and may be dropped for the last time.
func TestRightOfSlotsNotInUse(t *testing.T) {
	for _, gen := range append(slices.Clone(good), end) {
		right(t, list(free(gen)), 1, true)
		for _, w := range slices.Concat(values, noValues) {
			right(t, list(api.Slot{Gen: gen, Word: w}), 1, w == 0)
		}
	}
	for _, gen := range notGood {
		right(t, list(free(gen)), 1, gen == end)
		right(t, list(api.Slot{Gen: gen, Word: 5}), 1, false)
	}
}

// Promise 14.1, Right: each slot is asked, wherever it stands.
func TestRightOfEachPlace(t *testing.T) {
	for _, wrong := range list(used(0, 3), used(end, 5), used(-1, 5), free(-1), free(end+1), api.Slot{Word: 5}) {
		for i := range places {
			l := slices.Repeat(list(used(1, 5)), places)
			right(t, l, places, true)
			l[i] = wrong
			right(t, l, places, false)
		}
	}
}

// Promise 14.2, Put: the first slot that is good and not in use; its Gen stays, and so does all else.
func TestPut(t *testing.T) {
	puts(t, list(free(0), free(0)), 5, 0, list(used(0, 5), free(0)))
	puts(t, list(used(0, 5), free(0), free(0)), 9, 1, list(used(0, 5), used(0, 9), free(0)))
	puts(t, list(used(0, 5), free(7), free(0)), 9, 7169, list(used(0, 5), used(7, 9), free(0)))
	puts(t, list(used(4, 5), used(3, 3), free(2)), 22, 2050, list(used(4, 5), used(3, 3), used(2, 22)))
	for _, gen := range good {
		puts(t, list(free(gen)), 5, 1024*gen, list(used(gen, 5)))
		puts(t, list(used(0, 5), free(gen)), 5, 1+1024*gen, list(used(0, 5), used(gen, 5)))
	}
}

// Promise 14.2, Put: the word may be any, and what stood in a slot that is not in use does not stay.
func TestPutOfEachWord(t *testing.T) {
	for _, w := range slices.Concat(values, noValues) {
		puts(t, list(free(1)), w, 1024, list(used(1, w)))
		puts(t, list(api.Slot{Gen: 1, Word: 77}), w, 1024, list(used(1, w)))
	}
}

// Promise 14.2, Put: a slot that is not good is passed over, and told as it is.
func TestPutBesideSlotsThatAreNotGood(t *testing.T) {
	for _, gen := range notGood {
		isFull(t, list(free(gen)))
		isFull(t, list(used(gen, 5), free(gen)))
		isFull(t, list(api.Slot{Gen: gen, Word: 7}))
		puts(t, list(free(gen), used(gen, 3), free(2)), 9, 2050, list(free(gen), used(gen, 3), used(2, 9)))
	}
}

// Promise 14.2, Put: the last slot that has a handle is taken, the one behind it is not.
func TestPutIntoTheLastSlot(t *testing.T) {
	full := slices.Repeat(list(used(0, 5)), places)
	isFull(t, full)
	isFull(t, nil)
	isFull(t, list())
	for _, gen := range good {
		l := slices.Clone(full)
		l[places-1] = free(gen)
		want := slices.Clone(full)
		want[places-1] = used(gen, 9)
		puts(t, l, 9, 1023+1024*gen, want)
		puts(t, append(slices.Clone(l), free(0)), 9, 1023+1024*gen, append(slices.Clone(want), free(0)))
		isFull(t, append(slices.Clone(full), free(gen)))
		isFull(t, slices.Concat(full, make([]api.Slot, 2*places)))
	}
}

// Promise 14.2, Put, one behind the other, till all slots of each table are in use.
func TestPutTillAllAreInUse(t *testing.T) {
	for _, n := range []int{1, 2, 3, 100, places} {
		l := fresh(t, n)
		for i := range n {
			slots, h, err := roots.Put(l, uint64(4*i+1))
			if err != api.OK || h != i {
				t.Fatalf("Put, the one at %d: %d %d", i, h, err)
			}
			l = slots
			count(t, l, i+1)
			right(t, l, n, true)
		}
		isFull(t, l)
		for i := range n {
			gets(t, l, i, uint64(4*i+1))
		}
	}
}

// Promise 14.2, Get, Set and Drop of handles that are right: no other slot is changed.
func TestHandlesThatAreRight(t *testing.T) {
	l := list(used(0, 5), used(3, 0), free(1), used(1, 22), used(0, 3))
	gets(t, l, 0, 5)
	gets(t, l, 3073, 0)
	gets(t, l, 1027, 22)
	gets(t, l, 4, 3)
	sets(t, l, 0, 9, list(used(0, 9), used(3, 0), free(1), used(1, 22), used(0, 3)))
	sets(t, l, 3073, 3, list(used(0, 5), used(3, 3), free(1), used(1, 22), used(0, 3)))
	sets(t, l, 1027, 0, list(used(0, 5), used(3, 0), free(1), used(1, 0), used(0, 3)))
	sets(t, l, 4, 3, l)
	drops(t, l, 0, list(free(1), used(3, 0), free(1), used(1, 22), used(0, 3)))
	drops(t, l, 3073, list(used(0, 5), free(4), free(1), used(1, 22), used(0, 3)))
	drops(t, l, 1027, list(used(0, 5), used(3, 0), free(1), free(2), used(0, 3)))
	drops(t, l, 4, list(used(0, 5), used(3, 0), free(1), used(1, 22), free(1)))
}

// Promise 14.2, at each place, of each Gen that is good, with words that may be any.
func TestHandlesOfEachPlace(t *testing.T) {
	for i := range places {
		for _, gen := range good {
			l := slices.Repeat(list(free(0)), i+1)
			l[i] = used(gen, 3)
			h := i + 1024*gen
			gets(t, l, h, 3)
			want := slices.Clone(l)
			want[i] = used(gen, math.MaxUint64)
			sets(t, l, h, math.MaxUint64, want)
			want[i] = free(gen + 1)
			drops(t, l, h, want)
			lacks(t, l[:i], h)
		}
	}
}

// Promise 14.2, Set: the word may be any.
func TestSetOfEachWord(t *testing.T) {
	for _, w := range slices.Concat(values, noValues) {
		sets(t, list(free(0), used(1, 77)), 1025, w, list(free(0), used(1, w)))
	}
}

// Promise 14.2: a handle of another Gen, of another place, of a slot that is not in use, of none.
func TestHandlesThatAreNotRight(t *testing.T) {
	l := list(used(0, 5), used(3, 9), free(1), used(1, 22))
	for _, h := range []int{1, 2, 3, 4, 5, 1023, 1024, 1025, 1026, 1028, 2048, 2049, 2050, 2051, 3072, 3074, 4096, 4097} {
		lacks(t, l, h)
	}
	full := slices.Repeat(list(used(0, 5)), places)
	last := slices.Repeat(list(used(end-1, 5)), places)
	for _, h := range noHandles {
		lacks(t, l, h)
		lacks(t, nil, h)
		lacks(t, list(), h)
		lacks(t, full, h)
		lacks(t, last, h)
	}
	lacks(t, nil, 0)
	lacks(t, list(), 0)
	lacks(t, list(free(0)), 0)
	lacks(t, list(api.Slot{Word: 5}), 0)
}

// Promise 14.2: a slot that is not good has no handle, also not the number that runs past an int.
func TestHandlesOfSlotsThatAreNotGood(t *testing.T) {
	for _, gen := range notGood {
		for i := range 3 {
			l := list(free(0), free(0), free(0))
			l[i] = used(gen, 5)
			for _, h := range []int{i, i + 1024*gen, i - 1024*gen, i + 1024*(gen-1), i + 1024*(gen+1), 1024*gen - i, gen} {
				lacks(t, l, h)
			}
		}
	}
}

// Promise 14.2: from the 1025th slot on there are no handles; the numbers are those of other places.
func TestHandlesBehindTheLastPlace(t *testing.T) {
	l := make([]api.Slot, 3*places)
	for i := places; i < len(l); i++ {
		l[i] = used(0, 5)
	}
	for _, h := range []int{0, 1, 1023, 1024, 1025, 2047, 2048, 3071, 3072} {
		lacks(t, l, h)
	}
	l[0], l[1], l[2] = used(1, 9), used(2, 22), free(1)
	gets(t, l, 1024, 9)
	gets(t, l, 2049, 22)
	lacks(t, l, 1025)
	lacks(t, l, 1026)
	want := slices.Clone(l)
	want[0] = used(1, 13)
	sets(t, l, 1024, 13, want)
	want[0] = free(2)
	drops(t, l, 1024, want)
}

// Promise 14.2, Drop: with its last Gen a slot comes to its end; nothing is put there any more.
func TestDropForTheLastTime(t *testing.T) {
	l := list(used(end-2, 5))
	drops(t, l, 1024*(end-2), list(free(end-1)))
	puts(t, list(free(end-1)), 9, 1024*(end-1), list(used(end-1, 9)))
	drops(t, list(used(end-1, 9)), 1024*(end-1), list(free(end)))
	isFull(t, list(free(end)))
	right(t, list(free(end)), 1, true)
	lacks(t, list(free(end)), 1024*end)
	lacks(t, list(free(end)), 1024*(end-1))
	puts(t, list(free(end), free(0)), 9, 1, list(free(end), used(0, 9)))
}

// Promise 14.2, with 14.1, of each list of some slots and each handle near, by a table that looks at all places.
func TestEachList(t *testing.T) {
	var pool []api.Slot
	for _, gen := range []int{0, 1, 2, end - 1, end, -1} {
		pool = append(pool, free(gen), used(gen, 5), used(gen, 3), api.Slot{Gen: gen, Word: 9})
	}
	each(t, nil)
	for _, a := range pool {
		each(t, list(a))
		for _, b := range pool {
			each(t, list(a, b))
			for _, c := range pool {
				each(t, list(a, b, c))
			}
		}
	}
}

// each holds all answers of l against the slow ones.
func each(t *testing.T, l []api.Slot) {
	t.Helper()
	for n := -1; n <= len(l)+1; n++ {
		right(t, l, n, n == len(l) && slowRight(l))
	}
	count(t, l, slowUsed(l))
	handles(t, l, slowHandles(l)...)
	slots, h, want := slowPut(l, 22)
	if got, to, err := roots.Put(l, 22); err != want || to != h || !slices.Equal(got, slots) {
		t.Errorf("Put(%v, 22): %v %d %d, want %v %d %d", l, got, to, err, slots, h, want)
	}
	for _, gen := range []int{-1, 0, 1, 2, end - 1, end} {
		for i := -1; i <= 3; i++ {
			eachHandle(t, l, i+places*gen)
		}
	}
}

func eachHandle(t *testing.T, l []api.Slot, h int) {
	t.Helper()
	i, ok := slowPlace(l, h)
	if !ok {
		lacks(t, l, h)
		return
	}
	gets(t, l, h, l[i].Word)
	set, _ := slowSet(l, h, 22)
	sets(t, l, h, 22, set)
	dropped, _ := slowDrop(l, h)
	drops(t, l, h, dropped)
}

// Promise 14.3: of handles that were not dropped all are right and unlike; what was dropped is never right again.
func TestHandlesStayAndGo(t *testing.T) {
	for _, n := range []int{1, 2, 7, 64} {
		l := fresh(t, n)
		held := map[int]uint64{}
		var order, gone []int
		for i := range 3000 {
			w := uint64(4*i + 1)
			slots, h, err := roots.Put(l, w)
			if _, twice := held[h]; err == api.OK && (twice || slices.Contains(gone, h)) {
				t.Fatalf("%d slots, Put %d: %d was told already", n, i, h)
			}
			if wants := len(held) < n; wants != (err == api.OK) {
				t.Fatalf("%d slots, %d held, Put: %d", n, len(held), err)
			}
			if err == api.OK {
				held[h], order = w, append(order, h)
			}
			l = slots
			if i%3 != 1 && len(order) > 0 {
				k := i * 31 % len(order)
				l, err = roots.Drop(l, order[k])
				if err != api.OK {
					t.Fatalf("%d slots, Drop(%d): %d", n, order[k], err)
				}
				gone = append(gone, order[k])
				delete(held, order[k])
				order = slices.Delete(order, k, k+1)
			}
			stay(t, l, held, gone[max(0, len(gone)-200):])
		}
		stay(t, l, held, gone)
	}
}

// stay asks that just those that are held are right.
func stay(t *testing.T, l []api.Slot, held map[int]uint64, gone []int) {
	t.Helper()
	for h, want := range held {
		if w, err := roots.Get(l, h); err != api.OK || w != want {
			t.Fatalf("Get of %d, which is held: %d %d, want %d", h, w, err, want)
		}
	}
	for _, h := range gone {
		if w, err := roots.Get(l, h); err != api.ErrHandle || w != 0 {
			t.Fatalf("Get of %d, which was dropped: %d %d", h, w, err)
		}
	}
	if n := roots.Used(l); n != len(held) || len(roots.Handles(l)) != n || !roots.Right(l, len(l)) {
		t.Fatalf("%d held: %d are used, handles %v, right %v", len(held), n, roots.Handles(l), roots.Right(l, len(l)))
	}
}

// Promise 14.3: a slot that is put and dropped again and again never tells a handle twice, till its end.
func TestHandlesOfOneSlot(t *testing.T) {
	for _, from := range []int{0, end - 2000} {
		l := list(free(from))
		for gen := from; gen < min(from+2000, end); gen++ {
			slots, h, err := roots.Put(l, 5)
			if err != api.OK || h != 1024*gen {
				t.Fatalf("Put of the Gen %d: %d %d", gen, h, err)
			}
			lacks(t, slots, h-1024)
			lacks(t, slots, h+1024)
			if l, err = roots.Drop(slots, h); err != api.OK {
				t.Fatalf("Drop(%d): %d", h, err)
			}
			lacks(t, l, h)
		}
	}
}

// Promise 14.3: a word that is set does not change which handles are right.
func TestSetLeavesHandles(t *testing.T) {
	l := list(used(2, 5), free(0), used(0, 9))
	for _, w := range slices.Concat(values, noValues) {
		slots, err := roots.Set(l, 2048, w)
		if err != api.OK {
			t.Fatalf("Set: %d", err)
		}
		handles(t, slots, 2048, 2)
		gets(t, slots, 2048, w)
		gets(t, slots, 2, 9)
		puts(t, slots, 1, 1, list(used(2, w), used(0, 1), used(0, 9)))
	}
}

// R4: what is handed in stays as it is, behind its end, too; what is answered is new memory, beside an error, too.
func TestListsAreNotChangedAndNotShared(t *testing.T) {
	for _, l := range [][]api.Slot{
		list(used(0, 5), free(1), used(0, 9), free(0)), list(free(0), used(0, 5), used(2, 3)), list(used(end, 5), free(-1), api.Slot{Word: 7}),
		slices.Repeat(list(used(0, 5)), places+3), make([]api.Slot, places+3),
	} {
		was := slices.Clone(l)
		for _, part := range [][]api.Slot{l, l[:1], l[:0]} {
			held := slices.Clone(part)
			var told [][]api.Slot
			for _, h := range []int{0, 1, 2, 3, 1024, 2050, 1023, -1, math.MaxInt} {
				set, _ := roots.Set(part, h, 77)
				dropped, _ := roots.Drop(part, h)
				put, _, _ := roots.Put(part, 77)
				told = append(told, set, dropped, put)
				roots.Get(part, h)
			}
			roots.Used(part)
			roots.Handles(part)
			roots.Right(part, len(part))
			for _, answer := range told {
				spoil(answer)
			}
			if !slices.Equal(part, held) || !slices.Equal(l, was) {
				t.Errorf("the list %v was changed: %v", was, l)
			}
		}
	}
}

// spoil writes into all that a list may reach.
func spoil(l []api.Slot) {
	l = l[:cap(l)]
	for i := range l {
		l[i] = used(-7, 7)
	}
}

// R4, R5: each answer has memory of its own, and is told the same again.
func TestAnswersAreTheirOwn(t *testing.T) {
	for range 2 {
		a, b := fresh(t, 3), fresh(t, 3)
		spoil(a)
		if !slices.Equal(b, make([]api.Slot, 3)) {
			t.Errorf("two new tables are one: %v", b)
		}
		l := list(used(1, 5), used(0, 9))
		one, other := roots.Handles(l), roots.Handles(l)
		one[0], one[1] = -7, -7
		if !slices.Equal(other, []int{1024, 1}) {
			t.Errorf("two lists of handles are one: %v", other)
		}
		fresh(t, 3)
		handles(t, l, 1024, 1)
	}
}

// R3: a list that is empty is told alike, be it nil or not.
func TestEmptyLists(t *testing.T) {
	for _, l := range [][]api.Slot{nil, {}, list(used(0, 5))[:0]} {
		isFull(t, l)
		lacks(t, l, 0)
		lacks(t, l, 1024)
		count(t, l, 0)
		handles(t, l)
		right(t, l, 0, false)
		right(t, l, 1, false)
	}
}

// R1: long lists end; what stands behind the 1024th slot stays as it is.
func TestLongLists(t *testing.T) {
	l := slices.Repeat(list(used(1, 5)), 1<<16)
	isFull(t, l)
	lacks(t, l, 0)
	lacks(t, l, 1<<16)
	count(t, l, 1<<16)
	right(t, l, 1<<16, false)
	want := slices.Clone(l)
	want[1023] = free(2)
	drops(t, l, 2047, want)
	put := slices.Clone(l)
	put[1023] = used(2, 9)
	puts(t, want, 9, 3071, put)
}
