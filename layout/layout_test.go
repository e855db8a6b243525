package layout_test

import (
	"math"
	"testing"

	"triforium/api"
	"triforium/layout"
	"triforium/span"
)

// The chapter's numbers, in digits: a limit that is changed in api would be told here.
const (
	maxSemi  = 32768
	maxLarge = 32768
	maxSlots = 1024
)

func config(semi, large, slots, limit int) api.Config {
	return api.Config{Semi: semi, Large: large, Slots: slots, Limit: limit}
}

// may are configs that may be: each number at both of its ends, and between.
var may = []api.Config{
	config(4, 3, 2, 3), config(2, 0, 1, 1), config(2, 0, 1, 2), config(2, 1, 1, 1), config(3, 0, 1, 3), config(3, 5, 7, 2), config(5, 2, 3, 5),
	config(maxSemi, maxLarge, maxSlots, maxSemi), config(maxSemi, 0, 1, 1), config(2, maxLarge, maxSlots, 2), config(maxSemi, 1, 1, maxSemi-1),
	config(maxSemi-1, maxLarge-1, maxSlots-1, maxSemi-1), config(100, 200, 50, 30),
}

// wrong are numbers that none of a config's numbers may be.
var wrong = []int{-1, -2, -4, -maxSemi, math.MinInt, math.MinInt + 1, math.MinInt / 2, maxSemi + 1, 2 * maxSemi, 1 << 32, 1<<32 + 4, math.MaxInt / 2, math.MaxInt - 1, math.MaxInt}

// mayNot are configs that may not be, most of them for one number alone.
func mayNot() []api.Config {
	l := []api.Config{
		{}, config(0, 3, 2, 3), config(1, 3, 2, 1), config(1, 0, 1, 1), config(0, 0, 1, 0),
		config(4, 3, 0, 3), config(4, 3, maxSlots+1, 3), config(4, 3, 2*maxSlots, 3),
		config(4, 3, 2, 0), config(4, 3, 2, 5), config(2, 3, 2, 3), config(4, 3, 2, maxSemi), config(maxSemi-1, 3, 2, maxSemi),
		config(maxSemi+1, 3, 2, 3), config(maxSemi+1, 3, 2, maxSemi+1), config(4, maxLarge+1, 2, 3),
		config(-4, -3, -2, -3), config(math.MinInt, math.MinInt, math.MinInt, math.MinInt), config(math.MaxInt, math.MaxInt, math.MaxInt, math.MaxInt),
	}
	for _, n := range wrong {
		l = append(l, config(n, 3, 2, 3), config(n, 3, 2, n), config(4, n, 2, 3), config(4, 3, n, 3), config(4, 3, 2, n))
	}
	return l
}

// row is the span of so many words from at on; the zero span of no word.
func row(at, size int) api.Span {
	if size == 0 {
		return api.Span{}
	}
	return api.Span{At: at, Size: size}
}

// places are those to look at of a heap of so many words: all of a small one, of a great one those at the ends of its parts.
func places(c api.Config) []int {
	l := []int{math.MinInt, math.MinInt + 1, -maxSemi, -2, -1, 1 << 32, 1 << 40, 1<<40 + 1, math.MaxInt - 1, math.MaxInt}
	words := 2*c.Semi + c.Large
	if words <= 200 {
		for at := 0; at <= words+3; at++ {
			l = append(l, at)
		}
		return l
	}
	for _, at := range []int{0, c.Limit, c.Semi / 2, c.Semi, 3 * c.Semi / 2, 2 * c.Semi, 2*c.Semi + c.Large/2, words} {
		l = append(l, at-1, at, at+1)
	}
	return l
}

// slowWhere tells a place of a config that may be as the chapter's section Words does.
func slowWhere(c api.Config, second bool, at int) int {
	switch {
	case at < 0 || at >= 2*c.Semi+c.Large:
		return 0
	case at >= 2*c.Semi:
		return 3
	case (at >= c.Semi) == second:
		return 1
	default:
		return 2
	}
}

// Promise 4.1, Check.
func TestCheck(t *testing.T) {
	for _, c := range may {
		if !layout.Check(c) {
			t.Errorf("Check(%+v): false", c)
		}
	}
	for _, c := range mayNot() {
		if layout.Check(c) {
			t.Errorf("Check(%+v): true", c)
		}
	}
}

// Promise 4.1, Check: each number at its ends and one beyond, the others being right.
func TestCheckOfEachNumber(t *testing.T) {
	cases := []struct {
		what        string
		least, most int
		of          func(n int) api.Config
	}{
		{"Semi, Limit 1", 2, 32768, func(n int) api.Config { return config(n, 3, 2, 1) }},
		{"Semi, and Limit of it", 2, 32768, func(n int) api.Config { return config(n, 3, 2, n) }},
		{"Semi, Limit 9", 9, 32768, func(n int) api.Config { return config(n, 3, 2, 9) }},
		{"Large", 0, 32768, func(n int) api.Config { return config(4, n, 2, 3) }},
		{"Slots", 1, 1024, func(n int) api.Config { return config(4, 3, n, 3) }},
		{"Limit of 4", 1, 4, func(n int) api.Config { return config(4, 3, 2, n) }},
		{"Limit of the greatest half", 1, 32768, func(n int) api.Config { return config(32768, 3, 2, n) }},
	}
	for _, c := range cases {
		for n := c.least - 3; n <= c.most+3; n++ {
			if got, want := layout.Check(c.of(n)), c.least <= n && n <= c.most; got != want {
				t.Errorf("Check, %s, %d: %v", c.what, n, got)
			}
		}
		for _, n := range wrong {
			if layout.Check(c.of(n)) {
				t.Errorf("Check, %s, %d: true", c.what, n)
			}
		}
	}
}

// Promise 4.1, Check of each small config.
func TestCheckOfSmallConfigs(t *testing.T) {
	for semi := -2; semi <= 5; semi++ {
		for large := -2; large <= 2; large++ {
			for slots := -2; slots <= 2; slots++ {
				for limit := -2; limit <= 6; limit++ {
					c := config(semi, large, slots, limit)
					want := semi >= 2 && large >= 0 && slots >= 1 && limit >= 1 && limit <= semi
					if layout.Check(c) != want {
						t.Errorf("Check(%+v): %v", c, !want)
					}
				}
			}
		}
	}
}

// The chapter's example, and what is told of it else.
func TestExample(t *testing.T) {
	c := config(4, 3, 2, 3)
	if got := layout.Words(c); got != 11 {
		t.Errorf("Words: %d", got)
	}
	if got := layout.From(c, true); got != row(4, 4) {
		t.Errorf("From, second: %v", got)
	}
	if got := layout.From(c, false); got != row(0, 4) {
		t.Errorf("From: %v", got)
	}
	if got := layout.To(c, true); got != row(0, 4) {
		t.Errorf("To, second: %v", got)
	}
	if got := layout.To(c, false); got != row(4, 4) {
		t.Errorf("To: %v", got)
	}
	if got := layout.Large(c); got != row(8, 3) {
		t.Errorf("Large: %v", got)
	}
	wheres := [2][13]int{{1, 1, 1, 1, 2, 2, 2, 2, 3, 3, 3, 0, 0}, {2, 2, 2, 2, 1, 1, 1, 1, 3, 3, 3, 0, 0}}
	for i, where := range wheres {
		for at, want := range where {
			if got := layout.Where(c, i == 1, at); got != want {
				t.Errorf("Where(%v, %d): %d, want %d", i == 1, at, got, want)
			}
		}
	}
}

// Promise 4.1, Words.
func TestWords(t *testing.T) {
	for _, c := range may {
		if got, want := layout.Words(c), 2*c.Semi+c.Large; got != want {
			t.Errorf("Words(%+v): %d, want %d", c, got, want)
		}
	}
	if got := layout.Words(config(maxSemi, maxLarge, maxSlots, maxSemi)); got != 98304 {
		t.Errorf("Words of the greatest config: %d", got)
	}
	if got := layout.Words(config(2, 0, 1, 1)); got != 4 {
		t.Errorf("Words of the least config: %d", got)
	}
}

// Promise 4.1, From and To.
func TestHalves(t *testing.T) {
	for _, c := range may {
		first, second := row(0, c.Semi), row(c.Semi, c.Semi)
		if a, b := layout.From(c, false), layout.To(c, false); a != first || b != second {
			t.Errorf("From and To of %+v: %v, %v", c, a, b)
		}
		if a, b := layout.From(c, true), layout.To(c, true); a != second || b != first {
			t.Errorf("From and To of %+v, second: %v, %v", c, a, b)
		}
	}
}

// Promise 4.1, Large: of no word it is the zero span, not one that stands behind the halves.
func TestLarge(t *testing.T) {
	for _, c := range may {
		if got, want := layout.Large(c), row(2*c.Semi, c.Large); got != want {
			t.Errorf("Large(%+v): %v, want %v", c, got, want)
		}
	}
	for _, c := range []api.Config{config(2, 0, 1, 1), config(maxSemi, 0, 1, 1)} {
		if got := layout.Large(c); got != (api.Span{}) {
			t.Errorf("Large(%+v): %v", c, got)
		}
	}
}

// Promise 4.1, Where.
func TestWhere(t *testing.T) {
	for _, c := range may {
		for _, second := range []bool{false, true} {
			for _, at := range places(c) {
				if got, want := layout.Where(c, second, at), slowWhere(c, second, at); got != want {
					t.Errorf("Where(%+v, %v, %d): %d, want %d", c, second, at, got, want)
				}
			}
		}
	}
}

// Promise 4.1, Where of a heap that has no part for large objects.
func TestWhereOfNoLargePart(t *testing.T) {
	c := config(3, 0, 1, 3)
	for at, want := range []int{1, 1, 1, 2, 2, 2, 0, 0, 0, 0} {
		if got := layout.Where(c, false, at); got != want {
			t.Errorf("Where(%d): %d, want %d", at, got, want)
		}
	}
	for at, want := range []int{2, 2, 2, 1, 1, 1, 0, 0, 0, 0} {
		if got := layout.Where(c, true, at); got != want {
			t.Errorf("Where, second, (%d): %d, want %d", at, got, want)
		}
	}
}

// Promise 4.1: the parts that are told are those of Where, have all words, and none twice.
func TestPartsHaveEachWordOnce(t *testing.T) {
	for _, c := range may {
		for _, second := range []bool{false, true} {
			parts := []api.Span{layout.From(c, second), layout.To(c, second), layout.Large(c)}
			if span.Total(parts) != layout.Words(c) || !span.Apart(parts[:2]) || span.Meets(parts[0], parts[2]) || span.Meets(parts[1], parts[2]) {
				t.Errorf("parts of %+v, %v: %v", c, second, parts)
			}
			for _, at := range places(c) {
				where := layout.Where(c, second, at)
				for i, part := range parts {
					if span.Has(part, at) != (where == i+1) {
						t.Errorf("Where(%+v, %v, %d): %d, parts %v", c, second, at, where, parts)
					}
				}
			}
		}
	}
}

// Promise 4.1, Small.
func TestSmall(t *testing.T) {
	for _, c := range may {
		for _, size := range []int{1, 2, c.Limit - 1, c.Limit, c.Limit + 1, c.Limit + 2, c.Semi, c.Semi + 1, c.Large, 0, -1, -c.Limit, maxSemi, maxSemi + 1, 8193, 1 << 32, 1<<32 + 1, math.MinInt, math.MaxInt} {
			if got, want := layout.Small(c, size), size >= 1 && size <= c.Limit; got != want {
				t.Errorf("Small(%+v, %d): %v", c, size, got)
			}
		}
	}
	c := config(6, 9, 2, 3)
	for size, want := range []bool{false, true, true, true, false, false, false, false, false} {
		if got := layout.Small(c, size); got != want {
			t.Errorf("Small(%+v, %d): %v", c, size, got)
		}
	}
}

// Promise 4.1, of configs that may not be: nothing has a place, and no size is small.
func TestConfigsThatMayNotBe(t *testing.T) {
	for _, c := range mayNot() {
		if got := layout.Words(c); got != 0 {
			t.Errorf("Words(%+v): %d", c, got)
		}
		if got := layout.Large(c); got != (api.Span{}) {
			t.Errorf("Large(%+v): %v", c, got)
		}
		for _, second := range []bool{false, true} {
			if a, b := layout.From(c, second), layout.To(c, second); a != (api.Span{}) || b != (api.Span{}) {
				t.Errorf("From and To of %+v, %v: %v, %v", c, second, a, b)
			}
			for _, at := range []int{math.MinInt, -1, 0, 1, 2, 3, 4, 5, 7, 8, 9, 10, 11, c.Semi, c.Limit, maxSemi, 2 * maxSemi, 3*maxSemi - 1, math.MaxInt} {
				if got := layout.Where(c, second, at); got != 0 {
					t.Errorf("Where(%+v, %v, %d): %d", c, second, at, got)
				}
			}
		}
		for _, size := range []int{math.MinInt, -1, 0, 1, 2, 3, 4, c.Limit, c.Limit - 1, c.Semi, maxSemi, math.MaxInt} {
			if layout.Small(c, size) {
				t.Errorf("Small(%+v, %d): true", c, size)
			}
		}
	}
}

// R5: the same again, whatever was asked between.
func TestTheSameAgain(t *testing.T) {
	for _, c := range may {
		a, b, w := layout.From(c, true), layout.To(c, true), layout.Where(c, true, 0)
		layout.From(c, false)
		layout.To(c, false)
		layout.Words(config(9, 9, 9, 9))
		layout.Large(api.Config{})
		if layout.From(c, true) != a || layout.To(c, true) != b || layout.Where(c, true, 0) != w {
			t.Errorf("%+v: told otherwise again", c)
		}
	}
}
