package work_test

import (
	"fmt"
	"math"
	"math/big"
	"testing"

	"triforium/api"
	"triforium/work"
)

// The chapter's number, in digits: the greatest one that Within takes.
const greatest = 1099511627776

// w is the work of these numbers, in the order in which Text tells them.
func w(words, objects, fields, marked, steps int) api.Work {
	return api.Work{Words: words, Objects: objects, Fields: fields, Marked: marked, Steps: steps}
}

// numbers are w's, in the order in which Text tells them.
func numbers(w api.Work) [5]int {
	return [5]int{w.Words, w.Objects, w.Fields, w.Marked, w.Steps}
}

// of is the work whose number at the place i is n, its other ones are 0.
func of(i, n int) api.Work {
	var l [5]int
	l[i] = n
	return w(l[0], l[1], l[2], l[3], l[4])
}

// around are numbers at the ends, near the ends, and between.
var around = []int{
	0, 1, 2, 3, 5, 8, 1000, -1, -2, -3, -8, -1000,
	math.MaxInt32, math.MaxInt32 + 1, math.MinInt32, math.MinInt32 - 1,
	greatest, greatest + 1, -greatest,
	1 << 61, 1<<61 - 1, 1<<62 - 1, 1 << 62, 1<<62 + 1, -1 << 61, -1 << 62, -1<<62 - 1, -1<<62 + 1,
	math.MaxInt - 2, math.MaxInt - 1, math.MaxInt, math.MinInt + 2, math.MinInt + 1, math.MinInt,
}

func large(n int) *big.Int { return big.NewInt(int64(n)) }

// slowSum adds in numbers that have no end, and asks behind it whether an int can be so.
func slowSum(a, b int) int {
	sum := new(big.Int).Add(large(a), large(b))
	if sum.IsInt64() {
		return int(sum.Int64())
	}
	if sum.Sign() > 0 {
		return 9223372036854775807
	}
	return -9223372036854775808
}

func slowAdd(a, b api.Work) api.Work {
	var l [5]int
	for i, n := range numbers(a) {
		l[i] = slowSum(n, numbers(b)[i])
	}
	return w(l[0], l[1], l[2], l[3], l[4])
}

// slowWithin tells by the chapter's words, in numbers that have no end.
func slowWithin(w api.Work, words, fields, roots, larges int) bool {
	things := large(1)
	for _, n := range []int{words, fields, roots, larges} {
		if n < 0 || n > greatest {
			return false
		}
		things.Add(things, large(n))
	}
	steps := new(big.Int).Mul(large(8), things)
	return w.Words <= words && w.Fields <= fields && w.Steps >= 0 && large(w.Steps).Cmp(steps) <= 0
}

// Promise 21.1, Add: ordinary numbers.
func TestAdd(t *testing.T) {
	for _, c := range []struct{ a, b, want api.Work }{
		{w(0, 0, 0, 0, 0), w(0, 0, 0, 0, 0), w(0, 0, 0, 0, 0)},
		{w(3, 2, 1, 0, 4), w(0, 0, 0, 0, 0), w(3, 2, 1, 0, 4)},
		{w(3, 2, 1, 0, 4), w(3, 2, 1, 0, 4), w(6, 4, 2, 0, 8)},
		{w(1, 20, 300, 4000, 50000), w(6, 70, 800, 9000, 10000), w(7, 90, 1100, 13000, 60000)},
		{w(1, 2, 3, 4, 5), w(-1, -3, -5, -7, -9), w(0, -1, -2, -3, -4)},
	} {
		if got := work.Add(c.a, c.b); got != c.want {
			t.Errorf("Add(%v, %v): %v, want %v", c.a, c.b, got, c.want)
		}
	}
}

// Promise 21.1, Add: each number is added to the one of the same name, and to no other one.
func TestAddNumberByNumber(t *testing.T) {
	for i := range 5 {
		for k := range 5 {
			var l [5]int
			l[i]++
			l[k] += 10
			want := w(l[0], l[1], l[2], l[3], l[4])
			if got := work.Add(of(i, 1), of(k, 10)); got != want {
				t.Errorf("Add(%v, %v): %v, want %v", of(i, 1), of(k, 10), got, want)
			}
		}
	}
}

// Promise 21.1, Add: the greatest int, and the least one.
func TestAddBeyondInts(t *testing.T) {
	const most, least = 9223372036854775807, -9223372036854775808
	for _, c := range []struct{ a, b, want int }{
		{most, 0, most}, {0, most, most}, {most - 1, 1, most}, {1, most - 1, most},
		{most, 1, most}, {1, most, most}, {most, most, most}, {most - 1, 2, most}, {1 << 62, 1 << 62, most},
		{1<<62 - 1, 1 << 62, most}, {1<<62 - 1, 1<<62 - 1, most - 1},
		{least, 0, least}, {0, least, least}, {least + 1, -1, least}, {-1, least + 1, least},
		{least, -1, least}, {-1, least, least}, {least, least, least}, {least + 1, -2, least}, {-1 << 62, -1<<62 - 1, least},
		{-1 << 62, -1 << 62, least}, {-1 << 62, -1<<62 + 1, least + 1},
		{most, least, -1}, {least, most, -1}, {most, -1, most - 1}, {least, 1, least + 1},
	} {
		for i := range 5 {
			if got := work.Add(of(i, c.a), of(i, c.b)); got != of(i, c.want) {
				t.Errorf("Add(%v, %v): %v, want %v", of(i, c.a), of(i, c.b), got, of(i, c.want))
			}
		}
	}
}

// Promise 21.1, Add: a number that goes beyond ints does so for itself, and any two numbers are as those that have no end.
func TestAddOfAny(t *testing.T) {
	for i, a := range around {
		for k, b := range around {
			at := func(l []int, i, n int) int { return l[(i+n)%len(l)] }
			v := w(a, at(around, i, 1), at(around, i, 2), at(around, i, 3), at(around, i, 4))
			u := w(b, at(around, k, 5), at(around, k, 7), at(around, k, 11), at(around, k, 13))
			if got, want := work.Add(v, u), slowAdd(v, u); got != want {
				t.Errorf("Add(%v, %v): %v, want %v", v, u, got, want)
			}
		}
	}
}

// Promise 21.1, Exact: just these, and none of them anything else.
func TestExact(t *testing.T) {
	for _, c := range []struct {
		w                             api.Work
		objects, words, fields, large int
	}{
		{w(0, 0, 0, 0, 0), 0, 0, 0, 0},
		{w(3, 2, 1, 0, 4), 2, 3, 1, 0},
		{w(30, 20, 10, 7, 4), 20, 30, 10, 7},
		{w(-1, -2, -3, -4, -5), -2, -1, -3, -4},
		{w(greatest+1, greatest+2, greatest+3, greatest+4, 0), greatest + 2, greatest + 1, greatest + 3, greatest + 4},
		{w(math.MaxInt, math.MinInt, math.MaxInt, math.MinInt, 1), math.MinInt, math.MaxInt, math.MaxInt, math.MinInt},
	} {
		if !work.Exact(c.w, c.objects, c.words, c.fields, c.large) {
			t.Errorf("Exact(%v, %d, %d, %d, %d): false", c.w, c.objects, c.words, c.fields, c.large)
		}
		for _, n := range []int{1, -1, 1 << 32, math.MinInt} {
			if work.Exact(c.w, c.objects+n, c.words, c.fields, c.large) {
				t.Errorf("Exact of %v: true of objects %d", c.w, c.objects+n)
			}
			if work.Exact(c.w, c.objects, c.words+n, c.fields, c.large) {
				t.Errorf("Exact of %v: true of words %d", c.w, c.words+n)
			}
			if work.Exact(c.w, c.objects, c.words, c.fields+n, c.large) {
				t.Errorf("Exact of %v: true of fields %d", c.w, c.fields+n)
			}
			if work.Exact(c.w, c.objects, c.words, c.fields, c.large+n) {
				t.Errorf("Exact of %v: true of large %d", c.w, c.large+n)
			}
		}
	}
}

// Promise 21.1, Exact: Steps are not asked.
func TestExactOfAnySteps(t *testing.T) {
	for _, n := range around {
		if !work.Exact(w(3, 2, 1, 5, n), 2, 3, 1, 5) {
			t.Errorf("Exact: false of steps %d", n)
		}
	}
}

// Promise 21.1, Exact: it holds of all numbers of which each is the one of its name, and of no other ones.
func TestExactOfAll(t *testing.T) {
	const top = 3
	for n := range top * top * top * top {
		v := w(n%top, n/top%top, n/top/top%top, n/top/top/top, 0)
		for m := range top * top * top * top {
			words, objects, fields, marked := m%top, m/top%top, m/top/top%top, m/top/top/top
			if got := work.Exact(v, objects, words, fields, marked); got != (n == m) {
				t.Errorf("Exact(%v, %d, %d, %d, %d): %v", v, objects, words, fields, marked, got)
			}
		}
	}
}

// Promise 21.1, Within: as much as may be, and one more.
func TestWithin(t *testing.T) {
	for _, c := range []struct {
		w                           api.Work
		words, fields, roots, large int
		want                        bool
	}{
		{w(0, 0, 0, 0, 0), 0, 0, 0, 0, true},
		{w(0, 0, 0, 0, 8), 0, 0, 0, 0, true},
		{w(0, 0, 0, 0, 9), 0, 0, 0, 0, false},
		{w(0, 0, 0, 0, -1), 0, 0, 0, 0, false},
		{w(3, 2, 1, 0, 4), 3, 1, 0, 0, true},
		{w(3, 2, 1, 0, 4), 2, 1, 0, 0, false},
		{w(3, 2, 1, 0, 4), 3, 0, 0, 0, false},
		{w(3, 2, 1, 0, 4), 4, 2, 1, 1, true},
		{w(3, 2, 1, 0, 40), 3, 1, 0, 0, true},
		{w(3, 2, 1, 0, 41), 3, 1, 0, 0, false},
		{w(3, 2, 1, 0, 41), 3, 1, 1, 0, true},
		{w(3, 2, 1, 0, 41), 3, 1, 0, 1, true},
		{w(3, 2, 1, 0, 49), 3, 1, 1, 0, false},
		{w(3, 2, 1, 0, 49), 3, 1, 0, 1, false},
		{w(1, 5, 2, 6, 8*11), 1, 2, 3, 4, true},
		{w(1, 5, 2, 6, 8*11+1), 1, 2, 3, 4, false},
	} {
		if got := work.Within(c.w, c.words, c.fields, c.roots, c.large); got != c.want {
			t.Errorf("Within(%v, %d, %d, %d, %d): %v", c.w, c.words, c.fields, c.roots, c.large, got)
		}
	}
}

// Promise 21.1, Within: 8 times each of them, and 8 more.
func TestWithinSteps(t *testing.T) {
	for n := range 3 * 3 * 3 * 3 {
		words, fields, roots, large := n%3, n/3%3, n/9%3, n/27
		for steps := -3; steps <= 80; steps++ {
			want := steps >= 0 && steps <= 8*words+8*fields+8*roots+8*large+8
			if got := work.Within(api.Work{Steps: steps}, words, fields, roots, large); got != want {
				t.Errorf("Within(steps %d, %d, %d, %d, %d): %v", steps, words, fields, roots, large, got)
			}
		}
	}
}

// Promise 21.1, Within: a number below 0, or above 2^40, even where the work is no more.
func TestWithinOfWrongNumbers(t *testing.T) {
	nothing := w(math.MinInt, 0, math.MinInt, 0, 0)
	for _, n := range around {
		want := n >= 0 && n <= greatest
		for i := range 4 {
			l := [4]int{1, 1, 1, 1}
			l[i] = n
			if got := work.Within(nothing, l[0], l[1], l[2], l[3]); got != want {
				t.Errorf("Within(%v, %v): %v", nothing, l, got)
			}
		}
		// Two wrong ones do not make up for one another.
		if got := work.Within(nothing, n, -n, 0, 0); got != (n == 0) {
			t.Errorf("Within(%v, %d, %d, 0, 0): %v", nothing, n, -n, got)
		}
		if got := work.Within(nothing, 0, 0, n, -n); got != (n == 0) {
			t.Errorf("Within(%v, 0, 0, %d, %d): %v", nothing, n, -n, got)
		}
	}
}

// Promise 21.1, Within: the greatest numbers that may be.
func TestWithinOfGreatNumbers(t *testing.T) {
	const steps = 35184372088840 // 8 times 4 times 2^40, and 8
	v := w(greatest, math.MaxInt, greatest, math.MaxInt, steps)
	if !work.Within(v, greatest, greatest, greatest, greatest) {
		t.Errorf("Within(%v): false", v)
	}
	for _, u := range []api.Work{w(1, 0, 0, 0, 0), w(0, 0, 1, 0, 0), w(0, 0, 0, 0, 1)} {
		if more := slowAdd(v, u); work.Within(more, greatest, greatest, greatest, greatest) {
			t.Errorf("Within(%v): true", more)
		}
	}
}

// Promise 21.1, Within: Objects and Marked are not asked, Words and Fields may be any that are no more.
func TestWithinOfAnyWork(t *testing.T) {
	for _, n := range around {
		for _, m := range around {
			if v := w(1, n, 1, m, 1); !work.Within(v, 1, 1, 0, 0) {
				t.Errorf("Within(%v, 1, 1, 0, 0): false", v)
			}
			for _, v := range []api.Work{w(n, 0, m, 0, 7), w(n, 0, 0, 0, m), w(0, 0, n, 0, m)} {
				if got, want := work.Within(v, 5, 7, 3, 2), slowWithin(v, 5, 7, 3, 2); got != want {
					t.Errorf("Within(%v, 5, 7, 3, 2): %v", v, got)
				}
			}
		}
	}
}

// Promise 21.1, Within: any work, of any numbers.
func TestWithinOfAny(t *testing.T) {
	few := []int{0, 1, -1, 9, greatest - 1, greatest, greatest + 1, math.MaxInt, math.MinInt}
	works := []api.Work{w(0, 0, 0, 0, 0), w(1, 0, 1, 0, 17), w(9, 0, 9, 0, 153), w(greatest, 0, 9, 0, 8*greatest+80), w(greatest-1, 0, greatest-1, 0, math.MaxInt), w(math.MinInt, 0, math.MinInt, 0, 16*greatest)}
	for _, a := range few {
		for _, b := range few {
			for _, c := range few {
				for _, d := range few {
					for _, v := range works {
						if got, want := work.Within(v, a, b, c, d), slowWithin(v, a, b, c, d); got != want {
							t.Errorf("Within(%v, %d, %d, %d, %d): %v", v, a, b, c, d, got)
						}
					}
				}
			}
		}
	}
}

// Promise 21.2, and the chapter's example.
func TestText(t *testing.T) {
	for _, c := range []struct {
		w    api.Work
		want string
	}{
		{w(3, 2, 1, 0, 4), "words 3, objects 2, fields 1, marked 0, steps 4"},
		{api.Work{}, "words 0, objects 0, fields 0, marked 0, steps 0"},
		{w(10, 200, 3000, 40000, 1000000), "words 10, objects 200, fields 3000, marked 40000, steps 1000000"},
		{w(-1, -20, -300, -4000, -50000), "words -1, objects -20, fields -300, marked -4000, steps -50000"},
		// Of any int, not of those alone that an immediate may be.
		{
			w(math.MaxInt, math.MinInt, 2305843009213693952, -2305843009213693953, math.MaxInt-1),
			"words 9223372036854775807, objects -9223372036854775808, fields 2305843009213693952, marked -2305843009213693953, steps 9223372036854775806",
		},
	} {
		if got := work.Text(c.w); got != c.want {
			t.Errorf("Text(%v): %q, want %q", c.w, got, c.want)
		}
	}
}

// Promise 21.2: each number in its place, whatever int it is.
func TestTextOfAny(t *testing.T) {
	for i := range around {
		at := func(n int) int { return around[(i+n)%len(around)] }
		v := w(at(0), at(3), at(7), at(12), at(20))
		want := fmt.Sprintf("words %d, objects %d, fields %d, marked %d, steps %d", at(0), at(3), at(7), at(12), at(20))
		if got := work.Text(v); got != want {
			t.Errorf("Text(%v): %q, want %q", v, got, want)
		}
	}
}
