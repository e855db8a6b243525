package state_test

import (
	"math"
	"slices"
	"testing"

	"triforium/api"
	"triforium/state"
)

// The chapters' numbers, in digits: a limit that is changed in api would be told here.
const (
	maxSemi   = 32768
	maxLarge  = 32768
	maxSlots  = 1024
	maxWords  = 98304
	maxFields = 4096
	maxRaws   = 4096
	maxCursor = 1048576
	maxAt     = 1099511627776
	maxGen    = 1099511627776
)

func sp(at, size int) api.Span { return api.Span{At: at, Size: size} }

func cfg(semi, large, slots, limit int) api.Config {
	return api.Config{Semi: semi, Large: large, Slots: slots, Limit: limit}
}

func hd(kind, fields, raws int, mark bool, cursor int) api.Head {
	return api.Head{Kind: kind, Fields: fields, Raws: raws, Mark: mark, Cursor: cursor}
}

func sizeOf(h api.Head) int { return 1 + h.Fields + h.Raws }

func wordOf(h api.Head) uint64 {
	w := 3 + uint64(h.Kind)*8 + uint64(h.Fields)*256 + uint64(h.Raws)*256*65536 + uint64(h.Cursor)*256*65536*65536
	if h.Mark {
		w += 4
	}
	return w
}

// headOf tells the header whose word w is, by the chapter of headers.
func headOf(w uint64) (api.Head, bool) {
	h := hd(int(w/8%32), int(w/256%65536), int(w/256/65536%65536), w/4%2 == 1, int(w/256/65536/65536))
	return h, w%4 == 3 && h.Fields <= maxFields && h.Raws <= maxRaws && h.Cursor <= maxCursor
}

// plain is the word of a header that has neither mark nor cursor.
func plain(fields, raws int) uint64 { return wordOf(hd(0, fields, raws, false, 0)) }

func ref(at int) uint64 { return uint64(at)*4 + 2 }

func imm(x int) uint64 { return uint64(x)*4 + 1 }

func used(gen int, w uint64) api.Slot { return api.Slot{Used: true, Gen: gen, Word: w} }

// isValue tells by the chapter of values whether w is one's word.
func isValue(w uint64) bool {
	switch w % 4 {
	case 0:
		return w == 0
	case 1:
		return true
	case 2:
		return w/4 <= maxAt
	}
	return false
}

// values are words of values that lead nowhere: nil, and numbers.
var values = []uint64{0, 1, 5, 9, 4*(1<<61-1) + 1, 1<<63 + 1, math.MaxUint64 - 2}

// noValues are words of no value: other tags, nils with a number, references that go too far, headers.
var noValues = []uint64{3, 4, 7, 8, 11, 523, 4 * maxAt, 4*maxAt + 3, 4*maxAt + 6, 1 << 63, 1<<63 + 2, math.MaxUint64 - 1, math.MaxUint64, math.MaxUint64 - 3}

// noHeads are words of no header: values, forwarded headers, other words whose lowest bits are not 3, and such of which a number may not be.
var noHeads = []uint64{
	0, 1, 2, 4, 5, 6, 22, 38, 520, 521, 522, math.MaxUint64, math.MaxUint64 - 1, 1 << 63, 1<<63 + 1,
	3 + (maxFields+1)<<8, 3 + 65535<<8, 3 + (maxRaws+1)<<24, 3 + 65535<<24, 3 + (maxCursor+1)<<40, 3 + 1<<63, 7 + (maxFields+1)<<8,
}

// far are ints that are no place of any heap.
var far = []int{
	-1, -2, -3, -98304, math.MinInt, math.MinInt + 1, math.MinInt / 2, 98304, 98305, 1 << 20, 1<<20 + 1,
	1 << 31, 1 << 32, 1<<32 + 2, -1 << 32, maxAt - 1, maxAt, maxAt + 1, 1 << 62, math.MaxInt - 2, math.MaxInt - 1, math.MaxInt,
}

func mayConfig(c api.Config) bool {
	in := func(x, least, most int) bool { return least <= x && x <= most }
	return in(c.Semi, 2, maxSemi) && in(c.Large, 0, maxLarge) && in(c.Slots, 1, maxSlots) && in(c.Limit, 1, c.Semi)
}

// half is where the half begins in which the objects are.
func half(s api.State) int {
	if s.Second {
		return s.Config.Semi
	}
	return 0
}

// slowHead tells the header at the place at, all of whose object stands in words.
func slowHead(words []uint64, at int) (api.Head, api.Errno) {
	if at < 0 || at >= len(words) {
		return api.Head{}, api.ErrPlace
	}
	h, ok := headOf(words[at])
	switch {
	case !ok:
		return api.Head{}, api.ErrTag
	case len(words[at:]) < sizeOf(h):
		return api.Head{}, api.ErrPlace
	}
	return h, api.OK
}

// slowSmall are the places of the walk; false, if it errs.
func slowSmall(s api.State) ([]int, bool) {
	var l []int
	for at := half(s); at < s.Top; {
		h, err := slowHead(s.Words, at)
		if err != api.OK || at+sizeOf(h) > s.Top {
			return nil, false
		}
		l = append(l, at)
		at += sizeOf(h)
	}
	return l, true
}

// slowTable tells word by word whether table and free are those of a part for large objects.
func slowTable(s api.State) bool {
	begin, end := 2*s.Config.Semi, 2*s.Config.Semi+s.Config.Large
	taken := make([]bool, end)
	last := -1
	for _, t := range s.Table {
		if t.At <= last || t.At < begin || t.At >= end || t.Size < 1 || t.Size > end-t.At {
			return false
		}
		last = t.At
		for i := range t.Size {
			if taken[t.At+i] {
				return false
			}
			taken[t.At+i] = true
		}
	}
	var free []api.Span
	for at := begin; at < end; at++ {
		switch {
		case taken[at]:
		case at > begin && !taken[at-1]:
			free[len(free)-1].Size++
		default:
			free = append(free, sp(at, 1))
		}
	}
	return slices.Equal(s.Free, free)
}

func slowLarge(s api.State) bool {
	if !slowTable(s) {
		return false
	}
	for _, t := range s.Table {
		h, err := slowHead(s.Words, t.At)
		if err != api.OK || sizeOf(h) != t.Size || h.Mark || h.Cursor != 0 || t.Size <= s.Config.Limit {
			return false
		}
	}
	return true
}

func slowSlots(s api.State) bool {
	for _, x := range s.Slots {
		if x.Gen < 0 || x.Used && (x.Gen >= maxGen || !isValue(x.Word)) || !x.Used && (x.Gen > maxGen || x.Word != 0) {
			return false
		}
	}
	return len(s.Slots) == s.Config.Slots
}

// slowObjects are the places of all objects of an s of which the first six rules hold.
func slowObjects(s api.State) []int {
	l, _ := slowSmall(s)
	for _, t := range s.Table {
		l = append(l, t.At)
	}
	return l
}

func slowLeads(s api.State, w uint64) bool {
	return w%4 != 2 || slices.Contains(slowObjects(s), int(w/4))
}

func slowFields(s api.State) bool {
	for _, at := range slowObjects(s) {
		h, _ := headOf(s.Words[at])
		for i := range h.Fields {
			if w := s.Words[at+1+i]; !isValue(w) || !slowLeads(s, w) {
				return false
			}
		}
	}
	return true
}

// slowCheck says what the chapter says, rule by rule.
func slowCheck(s api.State) int {
	small, ok := []int(nil), false
	switch {
	case !mayConfig(s.Config):
		return 1
	case len(s.Words) != 2*s.Config.Semi+s.Config.Large:
		return 2
	case s.Top < half(s) || s.Top > half(s)+s.Config.Semi:
		return 3
	}
	if small, ok = slowSmall(s); !ok {
		return 4
	}
	for _, at := range small {
		if h, _ := headOf(s.Words[at]); h.Mark || h.Cursor != 0 || sizeOf(h) > s.Config.Limit {
			return 5
		}
	}
	switch {
	case !slowLarge(s):
		return 6
	case !slowSlots(s):
		return 7
	case !slowFields(s):
		return 8
	}
	for _, x := range s.Slots {
		if x.Used && !slowLeads(s, x.Word) {
			return 9
		}
	}
	return 0
}

// deep is s, none of its lists shared, by hand.
func deep(s api.State) api.State {
	s.Words = append([]uint64(nil), s.Words...)
	s.Table = append([]api.Span(nil), s.Table...)
	s.Free = append([]api.Span(nil), s.Free...)
	s.Slots = append([]api.Slot(nil), s.Slots...)
	return s
}

// equal tells by hand whether a and b are the same.
func equal(a, b api.State) bool {
	return a.Config == b.Config && a.Second == b.Second && a.Top == b.Top && slices.Equal(a.Words, b.Words) &&
		slices.Equal(a.Table, b.Table) && slices.Equal(a.Free, b.Free) && slices.Equal(a.Slots, b.Slots)
}

// asks holds all calls about s against what they should tell: the rule that is broken first is number; s stays as it is.
func asks(t *testing.T, s api.State, number int) {
	t.Helper()
	old := deep(s)
	if got := state.Check(s); got != number {
		t.Errorf("Check(%+v): %d, want %d", s, got, number)
	}
	places, err := state.Objects(s)
	switch {
	case number != 0 && (err != api.ErrForm || len(places) != 0):
		t.Errorf("Objects(%+v): %v %d, want none and %d", s, places, err, api.ErrForm)
	case number == 0 && (err != api.OK || !slices.Equal(places, slowObjects(s))):
		t.Errorf("Objects(%+v): %v %d, want %v and OK", s, places, err, slowObjects(s))
	}
	want := 0
	if number != 1 && half(s) <= s.Top && s.Top <= half(s)+s.Config.Semi {
		want = s.Top - half(s)
	}
	if got := state.Used(s); got != want {
		t.Errorf("Used(%+v): %d, want %d", s, got, want)
	}
	if !equal(s, old) {
		t.Errorf("it was %+v, and is %+v now", old, s)
	}
}

// agrees holds all calls about s against what the chapter says, and tells which rule is broken.
func agrees(t *testing.T, s api.State) int {
	t.Helper()
	number := slowCheck(s)
	asks(t, s, number)
	return number
}

func heads(t *testing.T, s api.State, at int) {
	t.Helper()
	want, wantErr := slowHead(s.Words, at)
	if got, err := state.Head(s, at); got != want || err != wantErr {
		t.Errorf("Head of %d words at %d: %+v %d, want %+v %d", len(s.Words), at, got, err, want, wantErr)
	}
}

// fresh is what New tells of c, which may be.
func fresh(t *testing.T, c api.Config) api.State {
	t.Helper()
	s, err := state.New(c)
	if err != api.OK {
		t.Fatalf("New(%+v): %d", c, err)
	}
	return s
}

// full is a heap that may be, of each kind of thing: four small objects (3, 1, 4 and 2 words), junk behind the top and in the other half, three large objects, free words ahead, between and behind, slots that are in use, free, at their end.
func full(second bool) api.State {
	s := api.State{Config: cfg(12, 24, 8, 4), Second: second, Words: make([]uint64, 48)}
	for i := range s.Words {
		s.Words[i] = 0xBAD0 + uint64(i)<<32 // no value's word, no header's
	}
	b := half(s)
	s.Top = b + 10
	copy(s.Words[b:], []uint64{
		wordOf(hd(31, 2, 0, false, 0)), ref(b + 3), ref(b),
		wordOf(hd(1, 0, 0, false, 0)),
		wordOf(hd(2, 2, 1, false, 0)), ref(26), imm(-1), math.MaxUint64,
		wordOf(hd(3, 0, 1, false, 0)), 3,
	})
	copy(s.Words[26:], []uint64{wordOf(hd(4, 5, 0, false, 0)), ref(26), ref(b + 8), 0, ref(38), imm(7)})
	copy(s.Words[33:], []uint64{wordOf(hd(5, 0, 4, false, 0)), 0, ref(1), 4, 523})
	copy(s.Words[38:], []uint64{wordOf(hd(0, 3, 1, false, 0)), ref(b + 4), 0, ref(33), 7})
	s.Table = []api.Span{sp(26, 6), sp(33, 5), sp(38, 5)}
	s.Free = []api.Span{sp(24, 2), sp(32, 1), sp(43, 5)}
	s.Slots = []api.Slot{used(0, ref(b)), {}, used(3, ref(26)), {Gen: maxGen}, used(maxGen-1, 0), {Gen: 9}, used(1, imm(4)), used(1, ref(b))}
	return s
}

// change is full with something changed, and the number that is told of it.
type change struct {
	name   string
	do     func(s *api.State)
	number int
}

// tell asks of full, in both halves, behind each change.
func tell(t *testing.T, changes []change) {
	t.Helper()
	for _, second := range []bool{false, true} {
		for _, c := range changes {
			s := full(second)
			c.do(&s)
			if got := slowCheck(s); got != c.number {
				t.Errorf("%s: the test's own check tells %d, want %d", c.name, got, c.number)
			}
			asks(t, s, c.number)
			if t.Failed() {
				t.Fatalf("%s, second %v", c.name, second)
			}
		}
	}
}

func TestExamples(t *testing.T) {
	c := cfg(4, 3, 2, 3)
	s := fresh(t, c)
	want := api.State{Config: c, Words: make([]uint64, 11), Free: []api.Span{sp(8, 3)}, Slots: make([]api.Slot, 2)}
	if !equal(s, want) {
		t.Errorf("New(%+v): %+v", c, s)
	}
	asks(t, s, 0)
	asks(t, full(false), 0)
	asks(t, full(true), 0)
	if l, _ := state.Objects(full(true)); !slices.Equal(l, []int{12, 15, 16, 20, 26, 33, 38}) {
		t.Errorf("the objects are at %v", l)
	}
	if n := state.Used(full(true)); n != 10 {
		t.Errorf("%d words are in use", n)
	}
}

func TestNew(t *testing.T) {
	for _, semi := range []int{2, 3, 4, 100, maxSemi - 1, maxSemi} {
		for _, large := range []int{0, 1, 2, 77, maxLarge} {
			for _, slots := range []int{1, 2, 1023, maxSlots} {
				for _, limit := range []int{1, 2, semi - 1, semi} {
					c := cfg(semi, large, slots, limit)
					s := fresh(t, c)
					want := api.State{Config: c, Words: make([]uint64, 2*semi+large), Slots: make([]api.Slot, slots)}
					if large > 0 {
						want.Free = []api.Span{sp(2*semi, large)}
					}
					if !equal(s, want) {
						t.Fatalf("New(%+v) is not the heap of that config", c)
					}
					if n := state.Check(s); n != 0 {
						t.Fatalf("New(%+v): it may not be, by the rule %d", c, n)
					}
					if l, err := state.Objects(s); len(l) != 0 || err != api.OK || state.Used(s) != 0 {
						t.Fatalf("New(%+v): it has the objects %v (%d), and %d words in use", c, l, err, state.Used(s))
					}
				}
			}
		}
	}
}

// wrongConfigs are configs that may not be, by one of their numbers, or by several.
func wrongConfigs() []api.Config {
	l := []api.Config{
		{}, cfg(1, 3, 2, 1), cfg(0, 3, 2, 0), cfg(maxSemi+1, 3, 2, 3), cfg(4, maxLarge+1, 2, 3), cfg(4, 3, maxSlots+1, 3),
		cfg(4, -1, 2, 3), cfg(4, 3, 0, 3), cfg(4, 3, -1, 3), cfg(4, 3, 2, 0), cfg(4, 3, 2, -1), cfg(4, 3, 2, 5), cfg(-4, 3, 2, -5),
	}
	for _, x := range far {
		l = append(l, cfg(x, 3, 2, 3), cfg(4, x, 2, 3), cfg(4, 3, x, 3), cfg(4, 3, 2, x), cfg(x, x, x, x))
	}
	return l
}

func TestNewOfConfigsThatMayNotBe(t *testing.T) {
	for _, c := range wrongConfigs() {
		if s, err := state.New(c); err != api.ErrArg || !equal(s, api.State{}) {
			t.Errorf("New(%+v): %+v %d, want nothing and %d", c, s, err, api.ErrArg)
		}
	}
}

func TestNewSharesNothing(t *testing.T) {
	c := cfg(4, 3, 2, 3)
	s := fresh(t, c)
	s.Words[0], s.Free[0], s.Slots[1] = 9, sp(1, 1), used(1, 1)
	if !equal(fresh(t, c), api.State{Config: c, Words: make([]uint64, 11), Free: []api.Span{sp(8, 3)}, Slots: make([]api.Slot, 2)}) {
		t.Error("two heaps share a list")
	}
}

func TestRule1(t *testing.T) {
	for _, c := range wrongConfigs() {
		s := full(false)
		s.Config = c
		asks(t, s, 1)
		asks(t, api.State{Config: c}, 1)
		asks(t, api.State{Config: c, Second: true, Top: c.Semi}, 1)
	}
}

func TestRule2(t *testing.T) {
	for _, n := range []int{0, 1, 46, 47, 49, 50, 96, maxWords, maxWords + 1, 2 * maxWords} {
		for _, second := range []bool{false, true} {
			s := full(second)
			s.Words = append(s.Words, make([]uint64, 2*maxWords)...)[:n]
			asks(t, s, 2)
		}
	}
	for _, c := range []api.Config{cfg(13, 24, 8, 4), cfg(12, 25, 8, 4), cfg(12, 0, 8, 4), cfg(maxSemi, maxLarge, 8, 4)} {
		s := full(false)
		s.Config = c
		asks(t, s, 2)
	}
	for n, want := range map[int]int{maxWords - 1: 2, maxWords: 0, maxWords + 1: 2} {
		s := fresh(t, cfg(maxSemi, maxLarge, 1, 1))
		s.Words = make([]uint64, n)
		asks(t, s, want)
	}
}

func TestRule3(t *testing.T) {
	for _, second := range []bool{false, true} {
		b := half(api.State{Config: cfg(12, 0, 1, 1), Second: second})
		for _, top := range append(far, b-1, b-2, b-12, b+13, b+14, b+24, b+36) {
			s := full(second)
			s.Top = top
			asks(t, s, 3)
		}
	}
}

func TestEachTop(t *testing.T) {
	for _, second := range []bool{false, true} {
		for top := -1; top <= 49; top++ {
			s := full(second)
			s.Top = top
			// Without what leads to objects that are cut off, a top between two objects may be.
			agrees(t, s)
			b := half(s)
			s.Words[b+1], s.Words[b+2] = 0, 0
			s.Words[28], s.Words[39] = ref(26), ref(33)
			s.Slots[0], s.Slots[7] = api.Slot{}, api.Slot{}
			want := map[int]int{b: 0, b + 3: 0, b + 4: 0, b + 8: 0, b + 10: 0}
			number, ok := want[top]
			if !ok {
				number = 4
			}
			if top < b || top > b+12 {
				number = 3
			}
			asks(t, s, number)
		}
	}
}

func TestAFullHalf(t *testing.T) {
	for _, second := range []bool{false, true} {
		s := full(second)
		b := half(s)
		s.Top = b + 12
		s.Words[b+10] = plain(1, 0)
		s.Words[b+11] = ref(b + 10)
		asks(t, s, 0)
		s.Words[b+10] = plain(1, 1) // beyond the top, and in the next part
		asks(t, s, 4)
		s.Words[b+10] = plain(maxFields, maxRaws) // beyond all words
		asks(t, s, 4)
	}
}

func TestRule4(t *testing.T) {
	var changes []change
	for _, at := range []int{0, 3, 4, 8} {
		for _, w := range noHeads {
			changes = append(changes, change{"no header", func(s *api.State) { s.Words[half(*s)+at] = w }, 4})
		}
	}
	for _, h := range []api.Head{hd(0, 2, 0, false, 0), hd(0, 0, 2, false, 0), hd(0, 1, 1, true, 3), hd(0, maxFields, 0, false, 0), hd(0, maxFields, maxRaws, false, 0)} {
		changes = append(changes, change{"beyond top", func(s *api.State) { s.Words[half(*s)+8] = wordOf(h) }, 4})
	}
	changes = append(changes,
		change{"the last one is shorter, and junk is behind it", func(s *api.State) { s.Words[half(*s)+8] = plain(0, 0); s.Words[half(*s)+9] = 9 }, 4},
		change{"the last one is shorter, and a header is behind it", func(s *api.State) { s.Words[half(*s)+8] = plain(0, 0); s.Words[half(*s)+9] = plain(0, 0) }, 0},
		change{"a forwarded header", func(s *api.State) { s.Words[half(*s)+3] = ref(30) }, 4},
	)
	tell(t, changes)
}

func TestRule5(t *testing.T) {
	var changes []change
	for at, h := range map[int]api.Head{0: hd(31, 2, 0, false, 0), 3: hd(1, 0, 0, false, 0), 4: hd(2, 2, 1, false, 0), 8: hd(3, 0, 1, false, 0)} {
		for _, cursor := range []int{1, 2, 255, maxCursor} {
			h.Mark, h.Cursor = false, cursor
			changes = append(changes, change{"a cursor", func(s *api.State) { s.Words[half(*s)+at] = wordOf(h) }, 5})
		}
		h.Mark, h.Cursor = true, 0
		changes = append(changes, change{"a mark", func(s *api.State) { s.Words[half(*s)+at] = wordOf(h) }, 5})
		h.Mark, h.Cursor = true, 1
		changes = append(changes, change{"both", func(s *api.State) { s.Words[half(*s)+at] = wordOf(h) }, 5})
	}
	changes = append(changes,
		change{"not small by a word", func(s *api.State) { s.Words[half(*s)+3] = plain(1, 3); s.Words[half(*s)+4] = 0 }, 5},
		change{"one that is all of it", func(s *api.State) { s.Words[half(*s)] = plain(0, 9) }, 5},
		change{"a limit that is less", func(s *api.State) { s.Config.Limit = 3 }, 5},
		change{"a limit of one", func(s *api.State) { s.Config.Limit = 1 }, 5},
	)
	tell(t, changes)
}

// table sets the table, and what it leaves.
func table(table, free []api.Span) func(s *api.State) {
	return func(s *api.State) { s.Table, s.Free = table, free }
}

func TestRule6OfTables(t *testing.T) {
	a, b, c := sp(26, 6), sp(33, 5), sp(38, 5)
	l := func(spans ...api.Span) []api.Span { return spans }
	free := l(sp(24, 2), sp(32, 1), sp(43, 5))
	changes := []change{
		{"no table", table(nil, free), 6},
		{"no free words", table(l(a, b, c), nil), 6},
		{"nothing", table(nil, nil), 6},
		{"not rising", table(l(b, a, c), free), 6},
		{"not rising at the end", table(l(a, c, b), free), 6},
		{"twice", table(l(a, b, b, c), free), 6},
		{"free words not rising", table(l(a, b, c), l(sp(32, 1), sp(24, 2), sp(43, 5))), 6},
		{"free words in two parts", table(l(a, b, c), l(sp(24, 1), sp(25, 1), sp(32, 1), sp(43, 5))), 6},
		{"free words twice", table(l(a, b, c), append(free, sp(43, 5))), 6},
		{"a word too few", table(l(a, b, c), l(sp(24, 2), sp(32, 1), sp(43, 4))), 6},
		{"a word of no part", table(l(a, b, c), l(sp(24, 2), sp(32, 1), sp(43, 6))), 6},
		{"a word of the half", table(l(a, b, c), l(sp(23, 3), sp(32, 1), sp(43, 5))), 6},
		{"a free span of no words", table(l(a, b, c), append(free, sp(48, 0))), 6},
		{"a free word of an object", table(l(a, b, c), l(sp(24, 3), sp(32, 1), sp(43, 5))), 6},
		{"a span ahead of the part", table(l(sp(23, 1), a, b, c), free), 6},
		{"a span across the part's beginning", table(l(sp(23, 3), a, b, c), l(sp(32, 1), sp(43, 5))), 6},
		{"a span behind the part", table(l(a, b, c, sp(48, 1)), free), 6},
		{"a span across the part's end", table(l(a, b, c, sp(44, 5)), l(sp(24, 2), sp(32, 1), sp(43, 1))), 6},
		{"a span of no words", table(l(a, sp(32, 0), b, c), free), 6},
		{"an object in the half", table(l(sp(0, 3), a, b, c), free), 6},
		{"an object in the other half", table(l(sp(12, 3), a, b, c), free), 6},
		{"one beside the object", table(l(sp(27, 5), b, c), l(sp(24, 3), sp(32, 1), sp(43, 5))), 6},
		{"one on junk", table(l(sp(24, 2), a, b, c), l(sp(32, 1), sp(43, 5))), 6},
		{"a longer one", table(l(sp(26, 7), b, c), l(sp(24, 2), sp(43, 5))), 6},
		{"a shorter one", table(l(sp(26, 5), b, c), l(sp(24, 2), sp(31, 2), sp(43, 5))), 6},
		{"two that meet", table(l(a, sp(33, 6), c), free), 6},
		{"two in one", table(l(a, sp(33, 10)), free), 6},
		{"one that something leads to goes", table(l(b, c), l(sp(24, 9), sp(43, 5))), 8},
		{"another one that something leads to goes", table(l(a, b), l(sp(24, 2), sp(32, 1), sp(38, 10))), 8},
		{"none", table(nil, l(sp(24, 24))), 8},
	}
	for _, x := range far {
		changes = append(changes,
			change{"far", table(l(sp(x, 6), b, c), free), 6}, change{"far", table(l(a, b, sp(38, x)), free), 6},
			change{"far", table(l(a, b, c), l(sp(x, 2), sp(32, 1), sp(43, 5))), 6}, change{"far", table(l(a, b, c), l(sp(24, 2), sp(32, 1), sp(43, x))), 6},
		)
	}
	tell(t, changes)
}

func TestRule6OfObjects(t *testing.T) {
	var changes []change
	for at, h := range map[int]api.Head{26: hd(4, 5, 0, false, 0), 33: hd(5, 0, 4, false, 0), 38: hd(0, 3, 1, false, 0)} {
		put := func(name string, w uint64) {
			changes = append(changes, change{name, func(s *api.State) { s.Words[at] = w }, 6})
		}
		for _, w := range noHeads {
			put("no header", w)
		}
		for _, cursor := range []int{1, 2, 3, 4, maxCursor} {
			x := h
			x.Cursor = cursor
			put("a cursor", wordOf(x))
		}
		marked, longer, shorter, more := h, h, h, h
		marked.Mark = true
		longer.Raws++
		shorter.Fields, shorter.Raws = sizeOf(h)-2, 0
		more.Fields, more.Raws = maxFields, maxRaws
		put("a mark", wordOf(marked))
		put("a longer one", wordOf(longer))
		put("a shorter one", wordOf(shorter))
		put("one beyond all words", wordOf(more))
	}
	changes = append(changes,
		change{"a limit that makes one small", func(s *api.State) { s.Config.Limit = 5 }, 6},
		change{"a limit that makes all small", func(s *api.State) { s.Config.Limit = 12 }, 6},
		change{"one in the free words at the end", func(s *api.State) {
			s.Table, s.Free = append(s.Table, sp(43, 5)), s.Free[:2]
			s.Words[43] = plain(0, 4)
		}, 0},
		change{"the same, but small", func(s *api.State) {
			s.Table, s.Free = append(s.Table, sp(43, 4)), append(s.Free[:2], sp(47, 1))
			s.Words[43] = plain(0, 3)
		}, 6},
		change{"one of a word at the beginning", func(s *api.State) {
			s.Table, s.Free = append([]api.Span{sp(24, 1)}, s.Table...), append([]api.Span{sp(25, 1)}, s.Free[1:]...)
			s.Words[24] = plain(0, 0)
		}, 6},
	)
	tell(t, changes)
}

func TestNoPartForLargeObjects(t *testing.T) {
	c := cfg(4, 0, 1, 4)
	spoilt := func(table, free []api.Span) api.State {
		s := fresh(t, c)
		s.Table, s.Free = table, free
		return s
	}
	asks(t, spoilt(nil, nil), 0)
	asks(t, spoilt([]api.Span{}, []api.Span{}), 0)
	for _, x := range []api.Span{{}, sp(8, 0), sp(8, 1), sp(0, 1), sp(4, 4), sp(-1, 1), sp(maxAt, 1)} {
		asks(t, spoilt([]api.Span{x}, nil), 6)
		asks(t, spoilt(nil, []api.Span{x}), 6)
		asks(t, spoilt([]api.Span{x}, []api.Span{x}), 6)
	}
}

func TestRule7(t *testing.T) {
	slot := func(i int, x api.Slot) func(s *api.State) { return func(s *api.State) { s.Slots[i] = x } }
	changes := []change{
		{"no slots", func(s *api.State) { s.Slots = nil }, 7},
		{"one too few", func(s *api.State) { s.Slots = s.Slots[:7] }, 7},
		{"one too many", func(s *api.State) { s.Slots = append(s.Slots, api.Slot{}) }, 7},
		{"more of them", func(s *api.State) { s.Config.Slots = 9 }, 7},
		{"fewer of them", func(s *api.State) { s.Config.Slots = 7 }, 7},
		{"a good one", slot(1, used(maxGen-1, imm(3))), 0},
		{"a free one that was never in use", slot(7, api.Slot{}), 0},
		{"one at its end", slot(0, api.Slot{Gen: maxGen}), 0},
	}
	for i := range 8 {
		for _, w := range noValues {
			changes = append(changes, change{"no value", slot(i, used(0, w)), 7}, change{"no value", slot(i, used(maxGen, w)), 7}, change{"no value, free", slot(i, api.Slot{Word: w}), 7})
		}
		for _, gen := range []int{-1, -2, -1024, math.MinInt, maxGen + 1, 1 << 54, math.MaxInt} {
			changes = append(changes, change{"not good", slot(i, used(gen, 0)), 7}, change{"not good, free", slot(i, api.Slot{Gen: gen}), 7})
		}
		changes = append(changes,
			change{"at its end, in use", slot(i, used(maxGen, 0)), 7},
			change{"a word, free", slot(i, api.Slot{Gen: 2, Word: imm(1)}), 7},
			change{"a reference, free", slot(i, api.Slot{Gen: 2, Word: ref(26)}), 7},
		)
	}
	tell(t, changes)
	s := fresh(t, cfg(2, 0, maxSlots, 1))
	asks(t, s, 0)
	s.Slots = append(s.Slots, api.Slot{})
	asks(t, s, 7)
}

// places are those of full's fields, counted from the half's beginning, and in the part for large objects.
var smallFields, largeFields = []int{1, 2, 5, 6}, []int{27, 28, 29, 30, 31, 39, 40, 41}

// eachField does it for the place of each field of full.
func eachField(do func(place func(s *api.State) *uint64)) {
	for _, i := range smallFields {
		do(func(s *api.State) *uint64 { return &s.Words[half(*s)+i] })
	}
	for _, at := range largeFields {
		do(func(s *api.State) *uint64 { return &s.Words[at] })
	}
}

func TestRule8(t *testing.T) {
	var changes []change
	put := func(name string, place func(s *api.State) *uint64, w func(b int) uint64, number int) {
		changes = append(changes, change{name, func(s *api.State) { *place(s) = w(half(*s)) }, number})
	}
	eachField(func(place func(s *api.State) *uint64) {
		for _, w := range values {
			put("a value", place, func(int) uint64 { return w }, 0)
		}
		for _, w := range noValues {
			put("no value", place, func(int) uint64 { return w }, 8)
		}
		for i := range 14 {
			number := 8
			if slices.Contains([]int{0, 3, 4, 8}, i) {
				number = 0
			}
			put("to a small one", place, func(b int) uint64 { return ref(b + i) }, number)
			put("to the other half", place, func(b int) uint64 { return ref(12 - b + i%12) }, 8)
		}
		for at := 24; at < 50; at++ {
			number := 8
			if slices.Contains([]int{26, 33, 38}, at) {
				number = 0
			}
			put("to a large one", place, func(int) uint64 { return ref(at) }, number)
		}
		for _, at := range []int{98303, 98304, 1<<32 + 26, 1 << 39, maxAt - 1, maxAt} {
			put("far", place, func(int) uint64 { return ref(at) }, 8)
		}
	})
	tell(t, changes)
}

func TestRule9(t *testing.T) {
	var changes []change
	put := func(name string, i int, w func(b int) uint64, number int) {
		changes = append(changes, change{name, func(s *api.State) { s.Slots[i] = used(5, w(half(*s))) }, number})
	}
	for i := range 8 {
		for _, w := range values {
			put("a value", i, func(int) uint64 { return w }, 0)
		}
		for at := range 14 {
			number := 9
			if slices.Contains([]int{0, 3, 4, 8}, at) {
				number = 0
			}
			put("to a small one", i, func(b int) uint64 { return ref(b + at) }, number)
			put("to the other half", i, func(b int) uint64 { return ref(12 - b + at%12) }, 9)
		}
		for at := 24; at < 50; at++ {
			number := 9
			if slices.Contains([]int{26, 33, 38}, at) {
				number = 0
			}
			put("to a large one", i, func(int) uint64 { return ref(at) }, number)
		}
		for _, at := range []int{98303, 98304, 1<<32 + 26, 1 << 39, maxAt - 1, maxAt} {
			put("far", i, func(int) uint64 { return ref(at) }, 9)
		}
	}
	tell(t, changes)
}

// What stands behind the top may look like an object: nothing leads there.
func TestHeadersThatAreNoObjects(t *testing.T) {
	for _, second := range []bool{false, true} {
		for _, at := range []int{10, 11, 6, 7, 9} {
			s := full(second)
			s.Words[half(s)+7], s.Words[half(s)+9] = plain(0, 0), plain(0, 0)
			s.Words[half(s)+10], s.Words[half(s)+11] = plain(0, 0), plain(0, 0)
			asks(t, s, 0)
			s.Words[half(s)+1] = ref(half(s) + at)
			asks(t, s, 8)
			s.Words[half(s)+1] = 0
			s.Slots[0].Word = ref(half(s) + at)
			asks(t, s, 9)
		}
		for _, at := range []int{0, 3, 24, 25, 32, 43, 34, 35} {
			s := full(second)
			if at < 12 {
				at += 12 - half(s)
			}
			s.Words[at] = plain(0, 0)
			asks(t, s, 0)
			s.Words[28] = ref(at)
			asks(t, s, 8)
		}
	}
}

// breaks has for each rule a way to break it that leaves those ahead of it as they are, and can be done beside all others.
func breaks() []func(s *api.State) {
	return []func(s *api.State){
		func(s *api.State) { s.Config.Semi = maxSemi + 1 },
		func(s *api.State) { s.Words = s.Words[:47] },
		func(s *api.State) { s.Top = -1 },
		func(s *api.State) { s.Words[half(*s)+3] = 0 },
		func(s *api.State) { s.Words[half(*s)] |= 4 },
		func(s *api.State) { s.Free = s.Free[1:] },
		func(s *api.State) { s.Slots[1].Word = 1 },
		func(s *api.State) { s.Words[half(*s)+2] = 3 },
		func(s *api.State) { s.Slots[0].Word = ref(1 << 30) },
	}
}

func TestTheFirstRuleThatIsBroken(t *testing.T) {
	all := breaks()
	for _, second := range []bool{false, true} {
		for set := range 1 << len(all) {
			s := full(second)
			first := 0
			// From the last one on: what changes the config changes where the half is.
			for i := len(all) - 1; i >= 0; i-- {
				if set>>i&1 == 1 {
					all[i](&s)
					first = i + 1
				}
			}
			asks(t, s, first)
		}
	}
}

// A rule is asked of all objects ahead of the next one: the first word that is wrong need not break the first rule.
func TestTheWholeWalkIsAskedFirst(t *testing.T) {
	tell(t, []change{
		{"a mark ahead of no header", func(s *api.State) { s.Words[half(*s)] |= 4; s.Words[half(*s)+8] = 0 }, 4},
		{"a field ahead of a mark", func(s *api.State) { s.Words[half(*s)+1] = 3; s.Words[half(*s)+8] |= 4 }, 5},
		{"a field ahead of a large one's mark", func(s *api.State) { s.Words[half(*s)+1] = 3; s.Words[38] |= 4 }, 6},
		{"a large one's field, and a slot", func(s *api.State) { s.Words[41] = 3; s.Slots[0].Word = ref(1) }, 8},
		{"a slot that leads nowhere, and one that is no value", func(s *api.State) { s.Slots[0].Word = ref(1); s.Slots[7].Word = 3 }, 7},
		{"a slot that is free, and has a reference", func(s *api.State) { s.Slots[1].Word = ref(1) }, 7},
	})
}

// step is the next number of a row that looks like chance, and is always the same.
func step(n uint64) uint64 { return n*6364136223846793005 + 1442695040888963407 }

// pick is one of l.
func pick[T any](seed *uint64, l []T) T {
	*seed = step(*seed)
	return l[int(*seed>>33)%len(l)]
}

// spoil changes one thing of s, or none.
func spoil(s *api.State, seed *uint64) {
	words := slices.Concat(values, noValues, noHeads, []uint64{ref(0), ref(3), ref(12), ref(15), ref(26), ref(33), ref(38), ref(10), plain(0, 0), plain(1, 0), plain(0, 1), plain(2, 1), plain(0, 4), plain(5, 0)})
	ints := []int{-1, 0, 1, 2, 3, 5, 6, 11, 12, 22, 24, 25, 26, 33, 38, 43, 48, maxGen}
	switch pick(seed, []int{0, 0, 0, 0, 0, 0, 1, 2, 3, 4, 5, 6, 7, 8}) {
	case 0:
		s.Words[int(step(*seed)>>33)%len(s.Words)] = pick(seed, words)
	case 1:
		s.Top = pick(seed, ints)
	case 2:
		s.Second = !s.Second
	case 3:
		s.Config.Limit = pick(seed, ints)
	case 4:
		s.Table[int(step(*seed)>>33)%len(s.Table)] = sp(pick(seed, ints), pick(seed, ints))
	case 5:
		s.Free[int(step(*seed)>>33)%len(s.Free)] = sp(pick(seed, ints), pick(seed, ints))
	case 6:
		s.Slots[int(step(*seed)>>33)%len(s.Slots)] = used(pick(seed, ints), pick(seed, words))
	case 7:
		s.Config.Slots = pick(seed, []int{7, 8, 9})
	case 8:
		s.Words = s.Words[:pick(seed, []int{47, 48})]
	}
}

func TestManyHeaps(t *testing.T) {
	seen := [10]int{}
	seed := uint64(15)
	for i := range 40000 {
		s := full(i%2 == 1)
		for range i % 3 {
			spoil(&s, &seed)
		}
		seen[agrees(t, s)]++
		if t.Failed() {
			t.FailNow()
		}
	}
	for number, n := range seen {
		if n < 20 {
			t.Errorf("%d is told %d times of all", number, n)
		}
	}
}

// All words of the least heaps, from a few: what is an object, and what leads where.
func TestAllOfTheLeastHeaps(t *testing.T) {
	pool := []uint64{0, 3, plain(1, 0), plain(0, 1), ref(0), ref(1), ref(2), ref(4), plain(0, 0) | 4}
	seen := [10]int{}
	for row := range 9 * 9 * 9 * 9 {
		for _, second := range []bool{false, true} {
			s := api.State{Config: cfg(2, 2, 1, 1), Second: second, Words: make([]uint64, 6), Free: []api.Span{sp(4, 2)}, Slots: make([]api.Slot, 1)}
			b := half(s)
			s.Words[b], s.Words[b+1], s.Words[4], s.Words[5] = pool[row%9], pool[row/9%9], pool[row/81%9], pool[row/729]
			for _, limit := range []int{1, 2} {
				s.Config.Limit = limit
				for top := b; top <= b+2; top++ {
					s.Top = top
					s.Table, s.Free = nil, []api.Span{sp(4, 2)}
					seen[agrees(t, s)]++
					s.Table, s.Free = []api.Span{sp(4, 2)}, nil
					seen[agrees(t, s)]++
				}
			}
		}
		if t.Failed() {
			t.FailNow()
		}
	}
	for _, number := range []int{0, 4, 5, 6, 8} {
		if seen[number] == 0 {
			t.Errorf("%d is never told", number)
		}
	}
}

func TestWordsThatNoObjectHas(t *testing.T) {
	for _, second := range []bool{false, true} {
		s := full(second)
		b := half(s)
		var others []int
		for at := range 12 {
			others = append(others, 12-b+at)
		}
		others = append(others, b+10, b+11, 24, 25, 32, 43, 44, 45, 46, 47, b+7, b+9, 34, 35, 36, 37, 42) // the last ones are raw words
		for _, w := range slices.Concat(values, noValues, noHeads, []uint64{plain(0, 0), plain(maxFields, maxRaws), plain(1, 0) | 4, ref(0), ref(1)}) {
			x := full(second)
			for _, at := range others {
				x.Words[at] = w
				asks(t, x, 0)
			}
		}
	}
}

func TestKindsAndSizes(t *testing.T) {
	for kind := range 32 {
		for fields := range 4 {
			for raws := range 4 - fields {
				s := fresh(t, cfg(8, 8, 1, 4))
				h := hd(kind, fields, raws, false, 0)
				s.Words[0], s.Top = wordOf(h), sizeOf(h)
				asks(t, s, 0)
				s.Config.Limit = sizeOf(h)
				asks(t, s, 0)
				if s.Config.Limit--; s.Config.Limit > 0 {
					asks(t, s, 5)
				}
				s = fresh(t, cfg(8, 8, 1, 1))
				s.Words[16], s.Table = wordOf(h), []api.Span{sp(16, sizeOf(h))}
				s.Free = []api.Span{sp(16+sizeOf(h), 8-sizeOf(h))}
				number := 0
				if sizeOf(h) == 1 {
					number = 6
				}
				asks(t, s, number)
			}
		}
	}
}

func TestObjectsTellsANewList(t *testing.T) {
	s := full(false)
	l, _ := state.Objects(s)
	want := slices.Clone(l)
	for i := range l {
		l[i] = -1
	}
	l = append(l, 7)
	if got, err := state.Objects(s); err != api.OK || !slices.Equal(got, want) || len(l) == len(want) {
		t.Errorf("Objects: %v %d, want %v and OK", got, err, want)
	}
}

func TestHead(t *testing.T) {
	for _, second := range []bool{false, true} {
		s := full(second)
		for at := -2; at <= 50; at++ {
			heads(t, s, at)
		}
		for _, at := range far {
			heads(t, s, at)
		}
		want := map[int]api.Head{0: hd(31, 2, 0, false, 0), 3: hd(1, 0, 0, false, 0), 4: hd(2, 2, 1, false, 0), 8: hd(3, 0, 1, false, 0)}
		for at, h := range want {
			if got, err := state.Head(s, half(s)+at); got != h || err != api.OK {
				t.Errorf("Head at %d: %+v %d, want %+v and OK", at, got, err, h)
			}
		}
		if got, err := state.Head(s, 26); got != hd(4, 5, 0, false, 0) || err != api.OK {
			t.Errorf("Head at 26: %+v %d", got, err)
		}
	}
}

// A header is told of any words, of heaps that may not be, too, and wherever it stands.
func TestHeadOfWordsAlone(t *testing.T) {
	pool := slices.Concat(values, noValues, noHeads, []uint64{
		plain(0, 0), plain(1, 0), plain(0, 1), plain(3, 3), plain(7, 0), plain(maxFields, maxRaws), plain(0, maxRaws), plain(maxFields, 0),
		wordOf(hd(31, 1, 1, true, maxCursor)), wordOf(hd(9, 0, 0, true, 0)), wordOf(hd(0, 0, 0, false, 5)),
	})
	for n := range 9 {
		for at := -1; at <= n; at++ {
			for _, w := range pool {
				s := api.State{Words: make([]uint64, n)}
				for i := range s.Words {
					s.Words[i] = 3
				}
				if at >= 0 && at < n {
					s.Words[at] = w
				}
				heads(t, s, at)
				s.Config, s.Second, s.Top = cfg(n, -n, n, n), true, -n
				heads(t, s, at)
			}
		}
	}
}

func TestHeadOfGreatObjects(t *testing.T) {
	all := sizeOf(hd(0, maxFields, maxRaws, false, 0))
	for _, n := range []int{all - 1, all, all + 1, 2 * all, maxWords - 1, maxWords} {
		s := api.State{Words: make([]uint64, n)}
		for _, at := range []int{0, 1, n - all - 1, n - all, n - all + 1, n - 1} {
			if at < 0 {
				continue
			}
			for _, h := range []api.Head{hd(0, maxFields, maxRaws, false, 0), hd(7, maxFields, 0, true, 1), hd(31, 0, 0, true, maxCursor)} {
				s.Words[at] = wordOf(h)
				heads(t, s, at)
			}
			s.Words[at] = 0
		}
	}
}

// No arena has so many words.
func TestHeadOfTooManyWords(t *testing.T) {
	for _, n := range []int{maxWords + 1, maxWords + 2, 2 * maxWords} {
		s := api.State{Words: make([]uint64, n)}
		s.Words[5] = plain(1, 1)
		for _, at := range []int{-1, 0, 5, maxWords, n, math.MinInt, math.MaxInt} {
			if h, err := state.Head(s, at); err != api.ErrArg || h != (api.Head{}) {
				t.Errorf("Head of %d words at %d: %+v %d, want nothing and %d", n, at, h, err, api.ErrArg)
			}
		}
	}
}

func TestHeadLeavesTheWords(t *testing.T) {
	s := full(false)
	for at := range s.Words {
		state.Head(s, at)
	}
	if !equal(s, full(false)) {
		t.Error("words have changed")
	}
}

// Used asks of the rules 1 and 3 alone.
func TestUsed(t *testing.T) {
	for _, second := range []bool{false, true} {
		for _, top := range slices.Concat(far, []int{0, 1, 2, 3, 4, 5, 6, 7, 8, 9}) {
			s := api.State{Config: cfg(4, 3, 2, 3), Second: second, Top: top, Table: []api.Span{sp(-1, 0)}}
			want := 0
			if half(s) <= top && top <= half(s)+4 {
				want = top - half(s)
			}
			if got := state.Used(s); got != want {
				t.Errorf("Used of Top %d, second %v: %d, want %d", top, second, got, want)
			}
			for _, c := range wrongConfigs() {
				s.Config = c
				if got := state.Used(s); got != 0 {
					t.Errorf("Used of %+v, Top %d: %d, want 0", c, top, got)
				}
			}
		}
	}
	for _, second := range []bool{false, true} {
		for i, do := range breaks() {
			s := full(second)
			do(&s)
			want := 10
			if i == 0 || i == 2 {
				want = 0
			}
			if got := state.Used(s); got != want {
				t.Errorf("Used, the rule %d broken: %d, want %d", i+1, got, want)
			}
		}
	}
}

// others are ways to change each part of a heap.
func others() []func(s *api.State) {
	return []func(s *api.State){
		func(s *api.State) { s.Config.Semi++ },
		func(s *api.State) { s.Config.Large++ },
		func(s *api.State) { s.Config.Slots++ },
		func(s *api.State) { s.Config.Limit++ },
		func(s *api.State) { s.Second = !s.Second },
		func(s *api.State) { s.Words[0]++ },
		func(s *api.State) { s.Words[23] ^= 1 << 63 },
		func(s *api.State) { s.Words[47]-- },
		func(s *api.State) { s.Words = s.Words[:47] },
		func(s *api.State) { s.Words = append(s.Words, 0) },
		func(s *api.State) { s.Words = nil },
		func(s *api.State) { s.Top++ },
		func(s *api.State) { s.Table[0].At++ },
		func(s *api.State) { s.Table[2].Size++ },
		func(s *api.State) { s.Table[0], s.Table[1] = s.Table[1], s.Table[0] },
		func(s *api.State) { s.Table = s.Table[:2] },
		func(s *api.State) { s.Table = append(s.Table, api.Span{}) },
		func(s *api.State) { s.Free[0].At-- },
		func(s *api.State) { s.Free[2].Size-- },
		func(s *api.State) { s.Free = s.Free[1:] },
		func(s *api.State) { s.Free = append(s.Free, api.Span{}) },
		func(s *api.State) { s.Slots[0].Used = false },
		func(s *api.State) { s.Slots[7].Gen++ },
		func(s *api.State) { s.Slots[3].Word++ },
		func(s *api.State) { s.Slots = s.Slots[:7] },
		func(s *api.State) { s.Slots = append(s.Slots, api.Slot{}) },
		func(s *api.State) { s.Slots = nil },
	}
}

func TestSame(t *testing.T) {
	for _, second := range []bool{false, true} {
		if !state.Same(full(second), full(second)) {
			t.Error("two that are the same are not")
		}
		for i, do := range others() {
			a, b := full(second), full(second)
			do(&b)
			if state.Same(a, b) || state.Same(b, a) || !state.Same(b, b) || !state.Same(b, deep(b)) {
				t.Errorf("the change %d, second %v: it is not told", i, second)
			}
			do(&a)
			if !state.Same(a, b) {
				t.Errorf("the change %d, second %v, done to both: it is told", i, second)
			}
		}
	}
	empty := api.State{Words: []uint64{}, Table: []api.Span{}, Free: []api.Span{}, Slots: []api.Slot{}}
	if !state.Same(api.State{}, empty) || !state.Same(empty, api.State{}) || !state.Same(api.State{}, api.State{}) {
		t.Error("lists that are empty are not the same")
	}
}

// scratch writes over all lists of s, and behind their ends.
func scratch(s api.State) {
	words := s.Words[:cap(s.Words)]
	for i := range words {
		words[i] = ^words[i]
	}
	for _, l := range [][]api.Span{s.Table[:cap(s.Table)], s.Free[:cap(s.Free)]} {
		for i := range l {
			l[i] = sp(-9, -9)
		}
	}
	slots := s.Slots[:cap(s.Slots)]
	for i := range slots {
		slots[i] = used(-9, 9)
	}
}

func TestCopy(t *testing.T) {
	for _, second := range []bool{false, true} {
		for _, do := range append(others(), func(*api.State) {}, func(s *api.State) { *s = api.State{} }) {
			s := full(second)
			do(&s)
			want := deep(s)
			c := state.Copy(s)
			if !equal(c, want) || !state.Same(c, s) || state.Check(c) != state.Check(s) {
				t.Fatalf("Copy(%+v): %+v", want, c)
			}
			scratch(c)
			if !equal(s, want) {
				t.Fatalf("a change of the copy is told of the heap: %+v, want %+v", s, want)
			}
			c = state.Copy(s)
			scratch(s)
			if !equal(c, want) {
				t.Fatalf("a change of the heap is told of the copy: %+v, want %+v", c, want)
			}
		}
	}
}

// What was asked of a heap hangs on nothing that was asked ahead.
func TestSameAgain(t *testing.T) {
	for range 3 {
		for i, do := range breaks() {
			s := full(true)
			do(&s)
			asks(t, s, i+1)
			asks(t, full(true), 0)
		}
	}
}

// greatest is a heap of the greatest config: a half full of objects of a word, or of one field each, and a part full of large ones.
func greatest(t *testing.T, fields int) api.State {
	s := fresh(t, cfg(maxSemi, maxLarge, maxSlots, 1+fields))
	size := 1 + fields
	for s.Top = 0; s.Top < maxSemi; s.Top += size {
		s.Words[s.Top] = plain(fields, 0)
		if fields > 0 {
			s.Words[s.Top+1] = ref(2 * maxSemi)
		}
	}
	for at := 2 * maxSemi; at < maxWords; at += 4 {
		s.Words[at] = plain(3, 0)
		s.Words[at+1], s.Words[at+3] = ref(maxSemi-size), ref(maxWords-4)
		s.Table = append(s.Table, sp(at, 4))
	}
	s.Free = nil
	for i := range s.Slots {
		s.Slots[i] = used(i, ref(i*size))
	}
	return s
}

func TestTheGreatestHeaps(t *testing.T) {
	for fields := range 2 {
		s := greatest(t, fields)
		places, err := state.Objects(s)
		if err != api.OK || len(places) != maxSemi/(1+fields)+maxLarge/4 || state.Check(s) != 0 || state.Used(s) != maxSemi {
			t.Fatalf("%d objects, %d; the rule %d; %d words in use", len(places), err, state.Check(s), state.Used(s))
		}
		for _, at := range places {
			if h, err := state.Head(s, at); err != api.OK || h.Fields != (int(s.Words[at])-3)/256 {
				t.Fatalf("Head at %d: %+v %d", at, h, err)
			}
		}
		s.Words[maxWords-1] = ref(maxWords - 3)
		if n := state.Check(s); n != 8 {
			t.Errorf("the last field leads nowhere: %d", n)
		}
		s.Words[maxWords-1] = 0
		s.Slots[maxSlots-1].Word = ref(maxWords - 1)
		if n := state.Check(s); n != 9 {
			t.Errorf("the last slot leads nowhere: %d", n)
		}
	}
}

// Lists may be as long as they like: what is wrong is told all the same.
func TestLongLists(t *testing.T) {
	s := full(false)
	s.Table = make([]api.Span, 200000)
	asks(t, s, 6)
	for i := range s.Table {
		s.Table[i] = sp(24+i, 1)
	}
	asks(t, s, 6)
	s = full(false)
	s.Free = make([]api.Span, 200000)
	asks(t, s, 6)
	s = full(false)
	s.Slots = make([]api.Slot, 200000)
	asks(t, s, 7)
}
