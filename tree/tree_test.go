package tree_test

import (
	"math"
	"slices"
	"testing"

	"gazette/api"
	"gazette/tree"
)

// none: numbers that no broker of a tree has, however many brokers it has.
var none = []int{-1, -2, api.MaxBrokers, api.MaxBrokers + 1, 1000, -1000, 1 << 32, -1 << 32, math.MaxInt, math.MinInt}

// pairs: numbers two by two.
func pairs(l ...int) [][2]int {
	var all [][2]int
	for i := 0; i+1 < len(l); i += 2 {
		all = append(all, [2]int{l[i], l[i+1]})
	}
	return all
}

// want: what New says, written out once more in another way: each broker has a colour, and those have one that have a way.
func want(n int, l [][2]int) api.Errno {
	if n < 1 || n > api.MaxBrokers {
		return api.ErrArg
	}
	colour := map[int]int{}
	for b := range n {
		colour[b] = b
	}
	for _, p := range l {
		x, there := colour[p[0]]
		y, also := colour[p[1]]
		if !there || !also || p[0] == p[1] {
			return api.ErrArg
		}
		if x == y {
			return api.ErrForm
		}
		for b := range n {
			if colour[b] == y {
				colour[b] = x
			}
		}
	}
	for b := range n {
		if colour[b] != colour[0] {
			return api.ErrForm
		}
	}
	return api.OK
}

// made: a tree of which nothing is wrong.
func made(t *testing.T, n int, l ...[2]int) *tree.Tree {
	t.Helper()
	x, e := tree.New(n, l...)
	if e != api.OK || x == nil {
		t.Fatalf("New(%d, %v): %v", n, l, e)
	}
	return x
}

// refused: that a call answers that error, and no tree.
func refused(t *testing.T, e api.Errno, n int, l ...[2]int) {
	t.Helper()
	if x, got := tree.New(n, l...); got != e || x != nil {
		t.Errorf("New(%d, %v and so on): %v, %d; not %d", n, l[:min(len(l), 8)], x, got, e)
	}
}

// sets: all sets of pairs of n brokers, rising, the lower one first.
func sets(n int) [][][2]int {
	all := [][][2]int{nil}
	for a := range n {
		for b := a + 1; b < n; b++ {
			for _, l := range all {
				all = append(all, append(slices.Clone(l), [2]int{a, b}))
			}
		}
	}
	return all
}

// trees: the pairs of each tree of n brokers.
func trees(n int) [][][2]int {
	return slices.DeleteFunc(sets(n), func(l [][2]int) bool { return want(n, l) != api.OK })
}

// TestNewBrokers: how many brokers there may be, which is asked ahead of all pairs.
func TestNewBrokers(t *testing.T) {
	star := [][2]int{}
	for n := 1; n <= api.MaxBrokers; n++ {
		if x := made(t, n, star...); x.Len() != n {
			t.Errorf("Len() of %d: %d", n, x.Len())
		}
		star = append(star, [2]int{0, n})
	}
	for _, n := range []int{0, -1, -2, -6, api.MaxBrokers + 1, api.MaxBrokers + 2, 1000, 1<<32 + 2, math.MaxInt, math.MinInt} {
		refused(t, api.ErrArg, n)
		refused(t, api.ErrArg, n, pairs(0, 1)...)
		refused(t, api.ErrArg, n, pairs(0, 1, 1, 0)...)
		refused(t, api.ErrArg, n, pairs(0, 1, 0, 2, 0, 3, 0, 4, 0, 5, 0, 6)...)
	}
}

func TestNew(t *testing.T) {
	for _, c := range []struct {
		n    int
		l    [][2]int
		want api.Errno
	}{
		{1, nil, api.OK},
		{2, pairs(0, 1), api.OK},
		{2, pairs(1, 0), api.OK},
		{3, pairs(2, 0, 1, 2), api.OK},
		{4, pairs(0, 1, 2, 3, 3, 0), api.OK}, // two parts that a later pair joins
		{6, pairs(5, 4, 4, 3, 3, 2, 2, 1, 1, 0), api.OK},
		{6, pairs(0, 1, 2, 3, 4, 5, 1, 2, 3, 4), api.OK},
		{6, pairs(5, 0, 5, 1, 5, 2, 5, 3, 5, 4), api.OK},

		// A pair that isn't one of two brokers.
		{1, pairs(0, 0), api.ErrArg},
		{1, pairs(0, 1), api.ErrArg},
		{1, pairs(1, 0), api.ErrArg},
		{2, pairs(0, 2), api.ErrArg},
		{2, pairs(2, 0), api.ErrArg},
		{2, pairs(-1, 0), api.ErrArg},
		{2, pairs(0, -1), api.ErrArg},
		{2, pairs(2, 3), api.ErrArg},
		{2, pairs(-1, -1), api.ErrArg},
		{2, pairs(2, 2), api.ErrArg},
		{2, pairs(0, 0), api.ErrArg},
		{2, pairs(1, 1), api.ErrArg},
		{2, pairs(0, 1, 1, 1), api.ErrArg},
		{2, pairs(0, 1, 0, 2), api.ErrArg},
		{6, pairs(0, 1, 1, 2, 2, 3, 3, 4, 4, 6), api.ErrArg},
		{5, pairs(0, 1, 1, 2, 2, 3, 3, 5), api.ErrArg},

		// A way between them already.
		{2, pairs(0, 1, 0, 1), api.ErrForm},
		{2, pairs(0, 1, 1, 0), api.ErrForm},
		{3, pairs(0, 1, 1, 0), api.ErrForm},
		{3, pairs(0, 1, 1, 2, 2, 0), api.ErrForm},
		{4, pairs(0, 1, 1, 2, 0, 2), api.ErrForm}, // as many pairs as are asked for
		{6, pairs(0, 1, 1, 2, 2, 3, 3, 4, 4, 0), api.ErrForm},
		{6, pairs(0, 1, 2, 3, 4, 5, 1, 2, 0, 3), api.ErrForm},
		{6, pairs(0, 1, 1, 2, 2, 3, 3, 4, 4, 5, 5, 0), api.ErrForm},

		// Too few pairs.
		{2, nil, api.ErrForm},
		{3, pairs(0, 1), api.ErrForm},
		{6, nil, api.ErrForm},
		{6, pairs(0, 1, 2, 3, 4, 5), api.ErrForm},
		{6, pairs(0, 1, 1, 2, 2, 3, 3, 4), api.ErrForm},

		// The pairs are asked one behind the other, each for both things; their number in the end.
		{3, pairs(0, 1, 1, 0, 0, 3), api.ErrForm},
		{3, pairs(0, 1, 0, 3, 1, 0), api.ErrArg},
		{3, pairs(0, 3), api.ErrArg},
		{3, pairs(0, 1, 1, 2, 0, 3), api.ErrArg},
		{3, pairs(0, 1, 1, 2, 0, 2), api.ErrForm},
		{3, pairs(0, 1, 1, 0, 1, 1), api.ErrForm},
		{3, pairs(0, 1, 1, 1, 1, 0), api.ErrArg},
	} {
		x, e := tree.New(c.n, c.l...)
		if e != c.want || (x != nil) != (e == api.OK) {
			t.Errorf("New(%d, %v): %v, %d; not %d", c.n, c.l, x, e, c.want)
		}
		if e != want(c.n, c.l) {
			t.Errorf("New(%d, %v): %d; in another way %d", c.n, c.l, e, want(c.n, c.l))
		}
	}
}

// TestNewNone: numbers that no broker has, at both places of a pair, ahead of and behind others.
func TestNewNone(t *testing.T) {
	for n := 1; n <= api.MaxBrokers; n++ {
		for _, b := range append([]int{n}, none...) {
			for _, l := range [][][2]int{pairs(0, b), pairs(b, 0), pairs(b, b), pairs(b, n), pairs(n-1, b)} {
				refused(t, api.ErrArg, n, l...)
				if n > 1 {
					refused(t, api.ErrArg, n, append(pairs(0, 1), l...)...)
					refused(t, api.ErrForm, n, append(pairs(0, 1, 1, 0), l...)...)
				}
			}
		}
	}
}

// TestNewMany: however many pairs, it ends with the first one that is wrong.
func TestNewMany(t *testing.T) {
	refused(t, api.ErrForm, 2, slices.Repeat(pairs(0, 1), 100000)...)
	refused(t, api.ErrForm, 6, slices.Repeat(pairs(0, 1, 1, 2, 2, 3, 3, 4, 4, 5), 20000)...)
	refused(t, api.ErrArg, 2, append(pairs(0, 1, 0, 2), slices.Repeat(pairs(0, 1), 100000)...)...)
	refused(t, api.ErrArg, 1, slices.Repeat(pairs(0, 0), 100000)...)
}

// TestNewAll holds New against its other form, over all lists of a few pairs of numbers that are brokers, or stand just beside these.
func TestNewAll(t *testing.T) {
	for n := range 5 {
		var some [][2]int
		for a := -1; a <= n; a++ {
			for b := -1; b <= n; b++ {
				some = append(some, [2]int{a, b})
			}
		}
		tell(t, n, nil)
		lists := [][][2]int{nil}
		for range 3 {
			var next [][][2]int
			for _, l := range lists {
				for _, p := range some {
					longer := append(slices.Clone(l), p)
					tell(t, n, longer)
					next = append(next, longer)
				}
			}
			lists = next
		}
	}
}

// tell: New answers as its other form does.
func tell(t *testing.T, n int, l [][2]int) {
	x, e := tree.New(n, l...)
	if e != want(n, l) || (x != nil) != (e == api.OK) {
		t.Fatalf("New(%d, %v): %d; not %d", n, l, e, want(n, l))
	}
}

// TestNewWhole: of one to six brokers, whatever pairs of them are taken, each once: a tree, or none.
func TestNewWhole(t *testing.T) {
	for n := 1; n <= api.MaxBrokers; n++ {
		for _, l := range sets(n) {
			tell(t, n, l)
		}
	}
}

// TestAnswers: a tree whose answers are written out by hand.
func TestAnswers(t *testing.T) {
	x := made(t, 6, pairs(3, 1, 1, 5, 4, 1, 0, 5, 5, 2)...)
	if x.Len() != 6 {
		t.Errorf("Len() = %d", x.Len())
	}
	for b, near := range [][]int{{5}, {3, 4, 5}, {5}, {1}, {1}, {0, 1, 2}} {
		if got := x.Near(b); !slices.Equal(got, near) {
			t.Errorf("Near(%d) = %v, not %v", b, got, near)
		}
		for a := range 6 {
			if x.Linked(b, a) != slices.Contains(near, a) {
				t.Errorf("Linked(%d, %d) = %v", b, a, x.Linked(b, a))
			}
		}
	}
	for _, way := range [][]int{
		{0}, {1}, {2}, {3}, {4}, {5},
		{0, 5}, {5, 0}, {1, 3}, {4, 1}, {5, 1}, {2, 5},
		{0, 5, 1}, {1, 5, 2}, {2, 5, 0}, {0, 5, 2}, {3, 1, 4}, {4, 1, 3}, {3, 1, 5}, {5, 1, 4},
		{0, 5, 1, 3}, {3, 1, 5, 0}, {4, 1, 5, 2}, {2, 5, 1, 4}, {2, 5, 1, 3}, {0, 5, 1, 4},
	} {
		if got := x.Path(way[0], way[len(way)-1]); !slices.Equal(got, way) {
			t.Errorf("Path(%d, %d) = %v, not %v", way[0], way[len(way)-1], got, way)
		}
	}
}

// TestLong: the longest way, with brokers that don't rise on it.
func TestLong(t *testing.T) {
	way := []int{2, 5, 0, 3, 1, 4}
	x := made(t, 6, pairs(3, 1, 5, 2, 4, 1, 0, 3, 5, 0)...)
	for i := range way {
		for j := i; j < len(way); j++ {
			part := slices.Clone(way[i : j+1])
			if got := x.Path(way[i], way[j]); !slices.Equal(got, part) {
				t.Errorf("Path(%d, %d) = %v, not %v", way[i], way[j], got, part)
			}
			slices.Reverse(part)
			if got := x.Path(way[j], way[i]); !slices.Equal(got, part) {
				t.Errorf("Path(%d, %d) = %v, not %v", way[j], way[i], got, part)
			}
		}
	}
}

// TestAlone: one broker has no neighbours, and one way.
func TestAlone(t *testing.T) {
	x := made(t, 1)
	if x.Len() != 1 || x.Near(0) != nil || x.Linked(0, 0) || !slices.Equal(x.Path(0, 0), []int{0}) {
		t.Errorf("%d, %v, %v, %v", x.Len(), x.Near(0), x.Linked(0, 0), x.Path(0, 0))
	}
	if x.Near(1) != nil || x.Linked(0, 1) || x.Linked(1, 0) || x.Path(0, 1) != nil || x.Path(1, 0) != nil || x.Path(1, 1) != nil {
		t.Error("there is a second one")
	}
}

// TestNone: of numbers that no broker has nothing is told, at whatever place.
func TestNone(t *testing.T) {
	for n := 1; n <= api.MaxBrokers; n++ {
		for _, l := range trees(n)[:1] {
			x := made(t, n, l...)
			for _, b := range append([]int{n}, none...) {
				if x.Near(b) != nil {
					t.Errorf("of %d: Near(%d) = %v", n, b, x.Near(b))
				}
				if x.Linked(b, b) || x.Path(b, b) != nil {
					t.Errorf("of %d: Linked(%d, itself) = %v, Path %v", n, b, x.Linked(b, b), x.Path(b, b))
				}
				for a := range n {
					if x.Linked(a, b) || x.Linked(b, a) {
						t.Errorf("of %d: %d and %d are linked", n, a, b)
					}
					if x.Path(a, b) != nil || x.Path(b, a) != nil {
						t.Errorf("of %d: Path(%d, %d) = %v, %v", n, a, b, x.Path(a, b), x.Path(b, a))
					}
				}
			}
		}
	}
}

// orders: pairs in other orders, turned round or not.
func orders(l [][2]int, seed int) [][][2]int {
	all := [][][2]int{l}
	back := slices.Clone(l)
	slices.Reverse(back)
	turned := slices.Clone(l)
	for i, p := range turned {
		turned[i] = [2]int{p[1], p[0]}
	}
	mixed := slices.Clone(l)
	for i := range mixed {
		j := (i*3 + seed) % len(mixed)
		mixed[i], mixed[j] = mixed[j], mixed[i]
		if (i+seed)%2 == 0 {
			mixed[i] = [2]int{mixed[i][1], mixed[i][0]}
		}
	}
	return append(all, back, turned, mixed)
}

// TestAll: every tree of one to six brokers, its pairs in some orders.
func TestAll(t *testing.T) {
	for n, count := range map[int]int{1: 1, 2: 1, 3: 3, 4: 16, 5: 125, 6: 1296} {
		all := trees(n)
		if len(all) != count {
			t.Fatalf("%d trees of %d", len(all), n)
		}
		for i, l := range all {
			for _, o := range orders(l, i) {
				told(t, made(t, n, o...), n, l)
			}
		}
	}
}

// told: does a tree tell what its pairs say? A way is the one when it goes from one end to the other one by pairs, and meets no broker twice.
func told(t *testing.T, x *tree.Tree, n int, l [][2]int) {
	t.Helper()
	if x.Len() != n {
		t.Fatalf("%v: Len() = %d", l, x.Len())
	}
	linked := func(a, b int) bool {
		return slices.Contains(l, [2]int{a, b}) || slices.Contains(l, [2]int{b, a})
	}
	for a := -1; a <= n; a++ {
		var near []int
		for b := -1; b <= n; b++ {
			if linked(a, b) {
				near = append(near, b)
			}
			if x.Linked(a, b) != linked(a, b) {
				t.Fatalf("%v: Linked(%d, %d) = %v", l, a, b, x.Linked(a, b))
			}
			way := x.Path(a, b)
			if a < 0 || a >= n || b < 0 || b >= n {
				if way != nil {
					t.Fatalf("%v: Path(%d, %d) = %v", l, a, b, way)
				}
				continue
			}
			if len(way) == 0 || way[0] != a || way[len(way)-1] != b {
				t.Fatalf("%v: Path(%d, %d) = %v", l, a, b, way)
			}
			met := map[int]bool{}
			for i, c := range way {
				if met[c] || i > 0 && !linked(way[i-1], c) {
					t.Fatalf("%v: Path(%d, %d) = %v", l, a, b, way)
				}
				met[c] = true
			}
		}
		if got := x.Near(a); !slices.Equal(got, near) {
			t.Fatalf("%v: Near(%d) = %v", l, a, got)
		}
	}
}

// TestHandedIn: New changes no pairs, and keeps none.
func TestHandedIn(t *testing.T) {
	for i, l := range trees(5) {
		for _, o := range orders(l, i) {
			given := slices.Clone(o)
			x := made(t, 5, given...)
			if !slices.Equal(given, o) {
				t.Fatalf("New of %v made it %v", o, given)
			}
			for j := range given {
				given[j] = [2]int{4, 4}
			}
			told(t, x, 5, l)
		}
	}
	for _, l := range [][][2]int{pairs(0, 1, 1, 0, 2, 0), pairs(2, 1, 9, 0, 0, 1), pairs(2, 1)} {
		given := slices.Clone(l)
		if x, e := tree.New(3, given...); x != nil || e == api.OK || !slices.Equal(given, l) {
			t.Errorf("New of %v: %d, and it is %v", l, e, given)
		}
	}
}

// TestCopies: what is handed out is new memory each time: whatever is written into it, or behind it, the tree answers the same, and so do earlier answers.
func TestCopies(t *testing.T) {
	const junk = 77
	for _, l := range trees(6) {
		x := made(t, 6, l...)
		for a := range 6 {
			near, again := x.Near(a), x.Near(a)
			spoil(near, junk)
			if slices.Contains(again, junk) {
				t.Fatalf("%v: two answers of Near(%d) share memory", l, a)
			}
			for b := range 6 {
				way, again := x.Path(a, b), x.Path(a, b)
				spoil(way, junk)
				if slices.Contains(again, junk) {
					t.Fatalf("%v: two answers of Path(%d, %d) share memory", l, a, b)
				}
			}
		}
		told(t, x, 6, l)
	}
}

// spoil: writes over all of a list, and over what memory stands behind it.
func spoil(l []int, junk int) {
	l = l[:cap(l)]
	for i := range l {
		l[i] = junk
	}
}

// TestApart: trees don't know of one another.
func TestApart(t *testing.T) {
	a, b := pairs(0, 1, 1, 2), pairs(0, 2, 2, 1)
	x := made(t, 3, a...)
	y := made(t, 3, b...)
	if _, e := tree.New(3, pairs(0, 1, 1, 0)...); e != api.ErrForm {
		t.Error(e)
	}
	told(t, x, 3, a)
	told(t, y, 3, b)
	made(t, 6, pairs(0, 1, 0, 2, 0, 3, 0, 4, 0, 5)...)
	told(t, x, 3, a)
	told(t, y, 3, b)
}
