package three

import (
	"math"
	"slices"
	"testing"

	"bothy/api"
)

// Short names, so that lists of truths stand on a line.
const (
	no   = api.False
	yes  = api.True
	open = api.Undef
)

// others tells numbers that are no truths: those beside the truths, those that have a truth's low bits, and the ends.
func others() []int {
	list := []int{3, 4, 7, -1, -2, -3, 255, 256, 257, 258, 1 << 16, 1<<16 + 1, math.MaxInt32, math.MinInt32, math.MaxInt, math.MinInt, math.MinInt + 1}
	wide := 1
	wide <<= 31 // where an int has 32 bits, the next ones are 0 and 1
	if wide <<= 1; wide != 0 {
		list = append(list, wide, wide+1, wide+2, -wide, -wide+1)
	}
	return list
}

// level tells how true x is, by the chapter's first sentence: 0 of what is false, 2 of what is true, else 1.
func level(x int) int {
	switch x {
	case 0:
		return 0
	case 1:
		return 2
	}
	return 1
}

// ofLevel tells the truth of a level.
func ofLevel(n int) int {
	return []int{0, 2, 1}[n]
}

// slowAnd, slowOr and slowLeast tell what And, Or and Least should, by how true each one is.
func slowAnd(l []int) int {
	n := 2
	for _, x := range l {
		n = min(n, level(x))
	}
	return ofLevel(n)
}

func slowOr(l []int) int {
	n := 0
	for _, x := range l {
		n = max(n, level(x))
	}
	return ofLevel(n)
}

func slowLeast(l []int) int {
	if len(l) == 0 {
		return 2
	}
	return slowAnd(l)
}

// lists tells all lists of up to most numbers, each out of from.
func lists(from []int, most int) [][]int {
	all := [][]int{nil}
	last := all
	for range most {
		var next [][]int
		for _, l := range last {
			for _, x := range from {
				next = append(next, append(slices.Clone(l), x))
			}
		}
		all = append(all, next...)
		last = next
	}
	return all
}

// check holds And, Or and Least of l against the slow ones, and sees that l stays as it is.
func check(t *testing.T, l []int) {
	t.Helper()
	was := slices.Clone(l)
	for _, c := range []struct {
		what      string
		got, want int
	}{
		{"And", And(l...), slowAnd(was)},
		{"Or", Or(l...), slowOr(was)},
		{"Least", Least(l...), slowLeast(was)},
	} {
		if c.got != c.want {
			t.Errorf("%s of %d truths, %v: %d, not %d", c.what, len(was), was[:min(len(was), 8)], c.got, c.want)
		}
	}
	if !slices.Equal(l, was) {
		t.Errorf("%v became %v", was, l)
	}
}

func TestTruths(t *testing.T) {
	for _, c := range []struct {
		l              []int
		and, or, least int
	}{
		{nil, yes, no, open},
		{[]int{}, yes, no, open},
		{[]int{no}, no, no, no},
		{[]int{yes}, yes, yes, yes},
		{[]int{open}, open, open, open},
		{[]int{no, no}, no, no, no},
		{[]int{no, yes}, no, yes, no},
		{[]int{no, open}, no, open, no},
		{[]int{yes, no}, no, yes, no},
		{[]int{yes, yes}, yes, yes, yes},
		{[]int{yes, open}, open, yes, open},
		{[]int{open, no}, no, open, no},
		{[]int{open, yes}, open, yes, open},
		{[]int{open, open}, open, open, open},
		{[]int{yes, open, no}, no, yes, no},
		{[]int{open, no, yes}, no, yes, no},
		{[]int{yes, yes, yes, yes}, yes, yes, yes},
		{[]int{no, no, no, no}, no, no, no},
		{[]int{yes, yes, yes, open}, open, yes, open},
		{[]int{no, no, no, open}, no, open, no},
		// Another number counts as Undef.
		{[]int{3}, open, open, open},
		{[]int{-1}, open, open, open},
		{[]int{7, 8}, open, open, open},
		{[]int{yes, 7}, open, yes, open},
		{[]int{7, yes}, open, yes, open},
		{[]int{no, 7}, no, open, no},
		{[]int{7, no}, no, open, no},
		{[]int{yes, -1, no}, no, yes, no},
	} {
		if got := And(c.l...); got != c.and {
			t.Errorf("And of %v: %d, not %d", c.l, got, c.and)
		}
		if got := Or(c.l...); got != c.or {
			t.Errorf("Or of %v: %d, not %d", c.l, got, c.or)
		}
		if got := Least(c.l...); got != c.least {
			t.Errorf("Least of %v: %d, not %d", c.l, got, c.least)
		}
	}
}

// TestNone hands in nothing at all.
func TestNone(t *testing.T) {
	if And() != yes || Or() != no || Least() != open {
		t.Errorf("of none: And %d, Or %d, Least %d", And(), Or(), Least())
	}
}

func TestNot(t *testing.T) {
	if Not(no) != yes || Not(yes) != no || Not(open) != open {
		t.Errorf("Not of the truths: %d, %d, %d", Not(no), Not(yes), Not(open))
	}
	for x := -1 << 10; x <= 1<<10; x++ {
		if x != no && x != yes && Not(x) != open {
			t.Errorf("Not of %d: %d", x, Not(x))
		}
	}
	for _, x := range others() {
		if Not(x) != open {
			t.Errorf("Not of %d: %d", x, Not(x))
		}
		if Not(Not(x)) != open {
			t.Errorf("Not of Not of %d: %d", x, Not(Not(x)))
		}
	}
}

// TestShort goes over all lists of up to eight truths.
func TestShort(t *testing.T) {
	for _, l := range lists([]int{no, yes, open}, 8) {
		check(t, l)
	}
}

// TestOthers goes over lists of truths and of numbers that are none: each one counts as Undef wherever it stands.
func TestOthers(t *testing.T) {
	for _, l := range lists([]int{no, yes, open, 3, -1, 256, 257, math.MaxInt, math.MinInt}, 4) {
		check(t, l)
	}
	for _, x := range others() {
		for _, l := range lists([]int{no, yes, open, x}, 3) {
			check(t, l)
		}
	}
}

// TestMany has long lists in which one truth differs, first, in the middle and last: any many are taken.
func TestMany(t *testing.T) {
	for _, n := range []int{9, 63, 64, 65, 255, 256, 257, 1024, 1025, 1 << 16, 1<<16 + 1} {
		for _, most := range []int{no, yes, open, 3} {
			for _, one := range []int{no, yes, open, -1} {
				for _, at := range []int{0, n / 2, n - 1} {
					l := slices.Repeat([]int{most}, n)
					l[at] = one
					check(t, l)
				}
			}
		}
	}
}

// TestTogether holds the calls against one another: Not of And is Or of each one's Not, and so the other way round.
func TestTogether(t *testing.T) {
	for _, l := range lists([]int{no, yes, open, 3}, 6) {
		var nots []int
		for _, x := range l {
			nots = append(nots, Not(x))
		}
		if Not(And(l...)) != Or(nots...) {
			t.Errorf("Not of And of %v: %d, but Or of each one's Not: %d", l, Not(And(l...)), Or(nots...))
		}
		if Not(Or(l...)) != And(nots...) {
			t.Errorf("Not of Or of %v: %d, but And of each one's Not: %d", l, Not(Or(l...)), And(nots...))
		}
	}
}
