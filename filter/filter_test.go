package filter_test

import (
	"math"
	"slices"
	"strings"
	"testing"

	"gazette/api"
	"gazette/cond"
	"gazette/event"
	"gazette/filter"
	"gazette/scope"
	"gazette/value"
)

var (
	minus = math.Copysign(0, -1)
	inf   = math.Inf(1)
	nan   = math.NaN()
	other = math.Float64frombits(0xfff0000000000001) // a NaN of other bits
)

func whole(n int64) api.Value { return api.Value{Kind: api.Int, Int: n} }
func num(x float64) api.Value { return api.Value{Kind: api.Num, Num: x} }
func text(s string) api.Value { return api.Value{Kind: api.Text, Text: s} }
func yes(b bool) api.Value    { return api.Value{Kind: api.Bool, Yes: b} }

// c: a condition.
func c(name string, op int, v api.Value) api.Cond { return api.Cond{Name: name, Op: op, Value: v} }

// x: a condition of x, of a whole number.
func x(op int, n int64) api.Cond { return c("x", op, whole(n)) }

// has: a condition that asks for a name alone.
func has(name string) api.Cond { return api.Cond{Name: name, Op: api.Has} }

// of: a filter.
func of(scope string, l ...api.Cond) api.Filter { return api.Filter{Scope: scope, Conds: l} }

// alike: laid alike, signs of noughts and all (== doesn't tell these); any NaN is like any other.
func alike(a, b api.Cond) bool {
	v, w := a.Value, b.Value
	n := math.Float64bits(v.Num) == math.Float64bits(w.Num) || math.IsNaN(v.Num) && math.IsNaN(w.Num)
	return n && a.Name == b.Name && a.Op == b.Op && v.Kind == w.Kind && v.Int == w.Int && v.Text == w.Text && v.Yes == w.Yes
}

// same: filters whose scopes and conditions are alike.
func same(f, g api.Filter) bool {
	return f.Scope == g.Scope && slices.EqualFunc(f.Conds, g.Conds, alike)
}

// clone: a filter that shares no list with another one.
func clone(f api.Filter) api.Filter {
	return api.Filter{Scope: f.Scope, Conds: slices.Clone(f.Conds)}
}

// scopes: some that stand above, below and beside one another.
var scopes = []string{"", "a", "b", "ab", "a/b", "a/bc", "a/c", "b/a", "a/b/c", "a/b/c/d"}

// wrongScopes: texts that are no scopes.
var wrongScopes = []string{"/", "a/", "/a", "a//b", "A", "1", "a b", " ", "a:b", "a/b/c/d/e", "abcdefghijklm", "\x00", "\xff"}

// few: conditions of x that imply one another in many ways, one of y, and such as are void.
func few() []api.Cond {
	return []api.Cond{
		x(api.Eq, 3), x(api.Eq, 5), x(api.Ne, 3), x(api.Ne, 4), x(api.Lt, 3), x(api.Lt, 5), x(api.Le, 3), x(api.Gt, 3), x(api.Ge, 3), x(api.Ge, 4), has("x"), c("x", api.Has, text("q")),
		c("x", api.Le, num(0)), c("x", api.Ge, num(minus)), c("x", api.Lt, num(nan)), c("x", api.Eq, num(other)), c("x", api.Prefix, yes(true)),
		c("x", api.Prefix, text("")), c("x", api.Prefix, text("ab")), c("x", api.Eq, text("abc")), c("x", api.Ne, text("b")), c("x", api.Eq, yes(true)),
		{Name: "x", Op: api.Eq, Value: api.Value{Kind: api.Int, Int: 3, Num: nan, Text: "z", Yes: true}}, // as x = 3
		has("y"), c("y", api.Gt, num(nan)), c("y", api.Eq, whole(3)), has("x1"),
	}
}

// lists: all of up to three of some conditions, and longer ones.
func lists() [][]api.Cond {
	l := few()
	all := [][]api.Cond{nil, {}}
	for i, a := range l {
		all = append(all, []api.Cond{a})
		for j, b := range l {
			all = append(all, []api.Cond{a, b}, []api.Cond{a, b, l[(i*7+j*3+1)%len(l)]}, []api.Cond{b, l[(i+j)%len(l)], a})
			var six []api.Cond
			for n := range api.MaxConds {
				six = append(six, l[(i*5+j*11+n*(n+i))%len(l)])
			}
			all = append(all, six)
		}
	}
	return all
}

// events: in some scopes, with few attributes; some whose names don't rise, or stand twice.
func events() []api.Event {
	vs := []api.Value{whole(2), whole(3), whole(4), whole(5), whole(6), num(minus), num(0), num(-1), num(nan), num(inf), text(""), text("ab"), text("abc"), text("b"), yes(true), yes(false)}
	lists := [][]api.Attr{nil, {{Name: "y", Value: whole(3)}}, {{Name: "x1", Value: whole(3)}}}
	for i, v := range vs {
		w := vs[(i*5+2)%len(vs)]
		lists = append(lists,
			[]api.Attr{{Name: "x", Value: v}},
			[]api.Attr{{Name: "x", Value: v}, {Name: "y", Value: w}},
			[]api.Attr{{Name: "x", Value: v}, {Name: "x1", Value: w}, {Name: "y", Value: whole(3)}},
			[]api.Attr{{Name: "y", Value: v}, {Name: "x", Value: w}, {Name: "x", Value: v}})
	}
	var all []api.Event
	for i, l := range lists {
		all = append(all, api.Event{Scope: scopes[i%len(scopes)], Attrs: l}, api.Event{Scope: "a/b", Attrs: l})
	}
	return all
}

// strange: filters that aren't Right, of each thing that may be wrong.
func strange() []api.Filter {
	l := []api.Filter{of("a", slices.Repeat([]api.Cond{x(api.Gt, 3)}, api.MaxConds+1)...), of("", slices.Repeat(few(), 9)...)}
	for _, s := range wrongScopes {
		l = append(l, of(s), of(s, x(api.Gt, 3), has("x")))
	}
	for _, w := range wrongConds() {
		l = append(l, of("a", w), of("a", w, w), of("a/b", x(api.Gt, 3), w, has("x")), of("//", w, has("x"), w))
	}
	return l
}

// wrongConds: conditions that aren't Right.
func wrongConds() []api.Cond {
	return []api.Cond{
		c("", api.Has, whole(0)), c("A", api.Eq, whole(1)), c("1a", api.Eq, whole(1)), c("a b", api.Ne, whole(1)), c("abcdefghijklm", api.Has, whole(0)), c("a\xff", api.Lt, num(nan)),
		c("x", 8, whole(1)), c("x", -1, whole(1)), c("x", math.MaxInt, num(nan)), c("x", math.MinInt, text("a")),
		c("x", api.Eq, text(strings.Repeat("a", api.MaxText+1))), c("x", api.Prefix, text(strings.Repeat("\xff", 1000))), c("x", api.Has, text(strings.Repeat("a", api.MaxText+1))),
		{Name: "x", Value: api.Value{Kind: 4, Int: 1, Yes: true}}, {Name: "x", Op: api.Gt, Value: api.Value{Kind: -1, Text: "a"}}, {Name: "x", Op: api.Has, Value: api.Value{Kind: math.MaxInt}}, {Name: "x", Op: api.Prefix, Value: api.Value{Kind: math.MinInt, Text: "a"}},
		{}, // of no name
	}
}

func TestRight(t *testing.T) {
	for _, s := range append([]string{"z9", "abcdefghijkl/abcdefghijkl/abcdefghijkl/abcdefghijkl"}, scopes...) {
		for _, l := range lists() {
			if !filter.Right(of(s, l...)) {
				t.Errorf("Right(%q)", filter.Print(of(s, l...)))
			}
		}
	}
	for _, f := range []api.Filter{
		{}, of("", has("abcdefghijkl")), of("a", c("a", api.Eq, text(strings.Repeat("a", api.MaxText)))), of("a", c("a", api.Prefix, num(nan))), of("a", x(api.Lt, 3), x(api.Gt, 5)),
	} {
		if !filter.Right(f) {
			t.Errorf("Right(%q)", filter.Print(f))
		}
	}
}

func TestRightNot(t *testing.T) {
	for _, s := range wrongScopes {
		if filter.Right(of(s)) || filter.Right(of(s, has("x"))) {
			t.Errorf("not Right in %q", s)
		}
	}
	for _, w := range wrongConds() {
		for n := range api.MaxConds { // alone, and at each place among others
			l := slices.Repeat([]api.Cond{x(api.Gt, 3)}, n)
			for at := range n + 1 {
				if f := of("a", slices.Insert(slices.Clone(l), at, w)...); filter.Right(f) {
					t.Errorf("not Right(%q)", filter.Print(f))
				}
			}
		}
	}
}

// TestRightCount: from no condition to more than MaxConds, alike and unlike.
func TestRightCount(t *testing.T) {
	for n := range 3 * api.MaxConds {
		want := n <= api.MaxConds
		if filter.Right(of("a", slices.Repeat([]api.Cond{has("x")}, n)...)) != want || filter.Right(of("", few()[:n]...)) != want {
			t.Errorf("Right of %d conditions is not %v", n, want)
		}
	}
}

func TestNorm(t *testing.T) {
	for _, k := range []struct {
		f    api.Filter
		want []api.Cond
	}{
		{of("a/b"), nil},
		{of("a", x(api.Gt, 3)), []api.Cond{x(api.Gt, 3)}},
		// As they are kept.
		{of("a", c("x", api.Has, text("q"))), []api.Cond{has("x")}},
		{of("a", c("x", api.Eq, num(minus))), []api.Cond{c("x", api.Eq, num(0))}},
		{of("a", c("x", api.Eq, num(other))), []api.Cond{c("x", api.Eq, num(nan))}},
		{of("a", c("x", api.Eq, api.Value{Kind: api.Text, Int: 1, Num: 2, Text: "t", Yes: true})), []api.Cond{c("x", api.Eq, text("t"))}},
		// By their texts: byte by byte, not as numbers, nor by their ops; a name that begins another one comes first, and has stands at h.
		{of("", c("b", api.Eq, whole(1)), c("a", api.Eq, whole(1))), []api.Cond{c("a", api.Eq, whole(1)), c("b", api.Eq, whole(1))}},
		{of("", x(api.Ne, 9), x(api.Ne, 10), x(api.Ne, -1)), []api.Cond{x(api.Ne, -1), x(api.Ne, 10), x(api.Ne, 9)}},
		{of("", x(api.Gt, 1), x(api.Lt, 9), x(api.Ne, 5)), []api.Cond{x(api.Ne, 5), x(api.Lt, 9), x(api.Gt, 1)}},
		{of("", c("x1", api.Eq, whole(1)), x(api.Gt, 1)), []api.Cond{x(api.Gt, 1), c("x1", api.Eq, whole(1))}},
		{of("", has("z"), c("i", api.Eq, whole(1)), c("g", api.Eq, whole(1)), has("a")), []api.Cond{c("g", api.Eq, whole(1)), has("a"), has("z"), c("i", api.Eq, whole(1))}},
		{of("", has("has"), c("has", api.Prefix, text("a")), has("a")), []api.Cond{c("has", api.Prefix, text("a")), has("a")}},
		{of("", c("x", api.Ne, text("a")), c("x", api.Ne, yes(true)), c("x", api.Ne, num(1)), x(api.Ne, 1)), []api.Cond{c("x", api.Ne, text("a")), x(api.Ne, 1), c("x", api.Ne, num(1)), c("x", api.Ne, yes(true))}},
		// Without those that another one implies, wherever that stands.
		{of("a", has("x"), x(api.Gt, 3), x(api.Gt, 1), x(api.Gt, 3)), []api.Cond{x(api.Gt, 3)}},
		{of("a", x(api.Gt, 1), x(api.Gt, 3)), []api.Cond{x(api.Gt, 3)}},
		{of("a", x(api.Gt, 3), x(api.Gt, 1)), []api.Cond{x(api.Gt, 3)}},
		{of("a", x(api.Le, 3), x(api.Lt, 3), x(api.Ne, 3), x(api.Ne, 2)), []api.Cond{x(api.Ne, 2), x(api.Lt, 3)}},
		{of("a", x(api.Eq, 4), x(api.Ge, 4), x(api.Lt, 9), has("x")), []api.Cond{x(api.Eq, 4)}},
		{of("a", c("x", api.Prefix, text("ab")), c("x", api.Prefix, text("")), c("x", api.Prefix, text("abc")), c("x", api.Ne, text("b"))), []api.Cond{c("x", api.Prefix, text("abc"))}},
		// What is of another name, or another kind, stays; so does what no rule tells (x > 2 and x < 5, of whole numbers 3 and 4).
		{of("a", x(api.Eq, 4), has("y"), c("y", api.Ne, whole(4))), []api.Cond{x(api.Eq, 4), c("y", api.Ne, whole(4))}},
		{of("a", x(api.Eq, 4), c("x", api.Gt, num(3))), []api.Cond{x(api.Eq, 4), c("x", api.Gt, num(3))}},
		{of("a", x(api.Gt, 2), x(api.Lt, 5)), []api.Cond{x(api.Lt, 5), x(api.Gt, 2)}},
		{of("a", x(api.Lt, 3), x(api.Le, 2)), []api.Cond{x(api.Le, 2)}},
		{of("a", x(api.Eq, 3), x(api.Eq, 5)), []api.Cond{x(api.Eq, 3), x(api.Eq, 5)}},
		// Of such as imply one another the first one: alike, alike as they are kept, or void.
		{of("a", x(api.Gt, 3), x(api.Gt, 3), x(api.Gt, 3)), []api.Cond{x(api.Gt, 3)}},
		{of("a", has("x"), c("x", api.Has, num(nan)), has("x")), []api.Cond{has("x")}},
		{of("a", c("x", api.Eq, num(0)), c("x", api.Eq, num(minus))), []api.Cond{c("x", api.Eq, num(0))}},
		{of("a", c("x", api.Gt, num(nan)), c("x", api.Lt, num(other))), []api.Cond{c("x", api.Lt, num(nan))}},
		{of("a", c("x", api.Prefix, whole(1)), c("x", api.Gt, num(nan)), c("x", api.Eq, num(nan)), has("x")), []api.Cond{c("x", api.Eq, num(nan))}},
		{of("a", c("x", api.Gt, num(nan)), c("y", api.Lt, num(nan)), x(api.Eq, 3), c("y", api.Eq, whole(3))), []api.Cond{c("x", api.Gt, num(nan)), c("y", api.Lt, num(nan))}},
	} {
		got, want := filter.Norm(k.f), api.Filter{Scope: k.f.Scope, Conds: k.want}
		if !same(got, want) {
			t.Errorf("Norm of %q: %q, not %q", filter.Print(k.f), filter.Print(got), filter.Print(want))
		}
	}
}

// staying: which conditions are to stay, written out once more in another way: from the last to the first by their texts, each goes if one of those that are left implies it.
func staying(conds []api.Cond) []api.Cond {
	var l []api.Cond
	for _, a := range conds {
		l = append(l, cond.Canon(a))
	}
	slices.SortFunc(l, func(a, b api.Cond) int { return strings.Compare(cond.Print(a), cond.Print(b)) })
	for i := len(l) - 1; i >= 0; i-- {
		rest := slices.Delete(slices.Clone(l), i, i+1)
		if slices.ContainsFunc(rest, func(a api.Cond) bool { return cond.Implies(a, l[i]) }) {
			l = rest
		}
	}
	return l
}

// TestNormAll holds Norm against its other form; it is Right, and Norm of itself, and of the conditions in any order it is the same.
func TestNormAll(t *testing.T) {
	for i, l := range lists() {
		f := of(scopes[i%len(scopes)], l...)
		got := filter.Norm(f)
		if want := of(f.Scope, staying(l)...); !same(got, want) {
			t.Fatalf("Norm of %q: %q, not %q", filter.Print(f), filter.Print(got), filter.Print(want))
		}
		if !filter.Right(got) || !same(filter.Norm(got), got) {
			t.Fatalf("Norm of %q, again: %q", filter.Print(f), filter.Print(filter.Norm(got)))
		}
		back := clone(f)
		for range len(l) {
			if len(l) > 1 {
				back.Conds = append(back.Conds[1:], back.Conds[0])
			}
			if slices.Reverse(back.Conds); !same(filter.Norm(back), got) {
				t.Fatalf("Norm of %q: %q", filter.Print(back), filter.Print(filter.Norm(back)))
			}
		}
	}
}

// TestNormMatch: P7.2: it has the same events; it is void where the filter is, and each covers the other one.
func TestNormMatch(t *testing.T) {
	es := events()
	matched := 0
	for i, l := range lists() {
		f := of(scopes[i%5], l...)
		g := filter.Norm(f)
		if filter.Void(f) != filter.Void(g) || !filter.Covers(f, g) || !filter.Covers(g, f) {
			t.Fatalf("%q and %q: not alike", filter.Print(f), filter.Print(g))
		}
		for _, e := range es {
			if filter.Match(f, e) != filter.Match(g, e) {
				t.Fatalf("%q and %q: not alike of %s", filter.Print(f), filter.Print(g), event.Print(e))
			}
			if filter.Match(f, e) {
				matched++
			}
		}
	}
	if matched == 0 {
		t.Error("nothing matches anything")
	}
}

func TestVoid(t *testing.T) {
	for _, k := range []struct {
		f    api.Filter
		want bool
	}{
		{of(""), false}, {of("a/b"), false}, {of("a", x(api.Gt, 3), has("y")), false}, {of("a", c("x", api.Has, num(nan))), false}, {of("a", c("x", api.Prefix, text(""))), false},
		{of("", c("a", api.Lt, num(nan))), true}, {of("", c("a", api.Ne, num(other))), true}, {of("a", c("x", api.Prefix, whole(1))), true}, {of("a", c("x", api.Prefix, num(nan))), true},
		{of("a", c("x", api.Ge, num(nan)), x(api.Gt, 3), has("y")), true}, {of("a", x(api.Gt, 3), c("x", api.Ge, num(nan)), has("y")), true}, {of("a", x(api.Gt, 3), has("y"), c("z", api.Ge, num(nan))), true},
		// That no event does both is not asked.
		{of("a", x(api.Lt, 3), x(api.Gt, 5)), false}, {of("a", x(api.Eq, 3), x(api.Ne, 3)), false}, {of("a", x(api.Eq, 3), c("x", api.Eq, num(3))), false}, {of("a", c("x", api.Lt, num(-inf))), false},
	} {
		if filter.Void(k.f) != k.want {
			t.Errorf("Void(%q) is not %v", filter.Print(k.f), k.want)
		}
	}
	for _, l := range lists() {
		want := false
		for _, a := range l {
			want = want || cond.Void(a)
		}
		if f := of("a", l...); filter.Void(f) != want {
			t.Errorf("Void(%q) is not %v", filter.Print(f), want)
		}
	}
}

func TestMatch(t *testing.T) {
	at := func(scope string, l ...any) api.Event {
		var attrs []api.Attr
		for i := 0; i < len(l); i += 2 {
			v, _ := value.Of(l[i+1])
			attrs = append(attrs, api.Attr{Name: l[i].(string), Value: v})
		}
		return event.New(scope, attrs...)
	}
	for _, k := range []struct {
		f    api.Filter
		e    api.Event
		want bool
	}{
		// Scopes.
		{of(""), at(""), true}, {of(""), at("a/b/c/d", "x", 1), true}, {of("a"), at("a"), true}, {of("a"), at("a/b"), true}, {of("a/b"), at("a/b/c/d"), true},
		{of("a"), at(""), false}, {of("a"), at("b"), false}, {of("a"), at("ab"), false}, {of("a/b"), at("a"), false}, {of("a/b"), at("a/bc"), false}, {of("a/b"), at("b/a"), false}, {of("b"), at("a/b"), false},
		// Conditions: all of them.
		{of("a", x(api.Gt, 3)), at("a", "x", 4), true}, {of("a", x(api.Gt, 3)), at("a/b", "x", 4, "y", 1), true}, {of("a", x(api.Gt, 3)), at("a", "x", 3), false}, {of("a", x(api.Gt, 3)), at("b", "x", 4), false}, {of("a", x(api.Gt, 3)), at("a", "y", 4), false}, {of("a", x(api.Gt, 3)), at("a"), false}, {of("a", x(api.Gt, 3)), at("a", "x", 4.0), false}, {of("a", x(api.Gt, 3)), at("a", "x", "4"), false},
		{of("", x(api.Gt, 3), x(api.Lt, 9)), at("", "x", 4), true}, {of("", x(api.Gt, 3), x(api.Lt, 9)), at("", "x", 9), false}, {of("", x(api.Gt, 3), x(api.Lt, 9)), at("", "x", 3), false}, {of("", x(api.Lt, 3), x(api.Gt, 5)), at("", "x", 4), false},
		{of("", x(api.Gt, 3), has("y")), at("", "x", 4, "y", 1), true}, {of("", x(api.Gt, 3), has("y")), at("", "x", 4), false}, {of("", has("y"), x(api.Gt, 3)), at("", "x", 4), false}, {of("", has("x"), has("y"), has("z")), at("", "x", 1, "z", 1), false}, {of("", has("x"), has("y"), has("z")), at("", "x", 1, "y", nan, "z", true), true},
		{of("", c("x", api.Prefix, text("ab")), c("x", api.Ne, text("abc"))), at("", "x", "abd"), true}, {of("", c("x", api.Prefix, text("ab")), c("x", api.Ne, text("abc"))), at("", "x", "abc"), false},
		// Such as are void.
		{of("", c("x", api.Lt, num(nan))), at("", "x", 1.0), false}, {of("", c("x", api.Eq, num(nan))), at("", "x", nan), false}, {of("", has("x"), c("x", api.Prefix, whole(1))), at("", "x", 1), false},
	} {
		if filter.Match(k.f, k.e) != k.want {
			t.Errorf("Match(%q, %s) is not %v", filter.Print(k.f), event.Print(k.e), k.want)
		}
	}
}

// TestMatchAll: by the words, over all.
func TestMatchAll(t *testing.T) {
	es := events()
	for i, l := range lists() {
		f := of(scopes[i%len(scopes)], l...)
		for _, e := range es {
			want := scope.Under(e.Scope, f.Scope)
			for _, a := range l {
				want = want && cond.Match(a, e)
			}
			if filter.Match(f, e) != want {
				t.Fatalf("Match(%q, %s) is not %v", filter.Print(f), event.Print(e), want)
			}
		}
	}
}

func TestCovers(t *testing.T) {
	for _, k := range []struct {
		f, g api.Filter
		want bool
	}{
		// Scopes.
		{of(""), of(""), true}, {of(""), of("a/b/c/d"), true}, {of("a"), of("a"), true}, {of("a"), of("a/b"), true}, {of("a/b"), of("a/b/c"), true},
		{of("a"), of(""), false}, {of("a/b"), of("a"), false}, {of("a"), of("ab"), false}, {of("a"), of("b"), false}, {of("a/b"), of("a/bc"), false}, {of("b"), of("a/b"), false},
		// Conditions.
		{of("a"), of("a", x(api.Gt, 3)), true}, {of("a", x(api.Gt, 3)), of("a"), false}, {of("a", has("x")), of("a", x(api.Gt, 3)), true}, {of("a", x(api.Gt, 3)), of("a", has("x")), false},
		{of("a", x(api.Gt, 3)), of("a", x(api.Gt, 5)), true}, {of("a", x(api.Gt, 5)), of("a", x(api.Gt, 3)), false}, {of("a", x(api.Gt, 3)), of("a/b", x(api.Eq, 5)), true}, {of("a/b", x(api.Gt, 3)), of("a", x(api.Eq, 5)), false}, {of("a", x(api.Gt, 3)), of("a", c("y", api.Gt, whole(5))), false}, {of("a", x(api.Gt, 3)), of("a", c("x", api.Gt, num(5))), false},
		{of("a", x(api.Gt, 3), has("y")), of("a", x(api.Gt, 5)), false}, {of("a", has("y"), x(api.Gt, 3)), of("a", x(api.Gt, 5)), false}, {of("a", x(api.Gt, 3), has("y")), of("a", c("y", api.Eq, text("")), x(api.Gt, 5)), true}, {of("a", x(api.Gt, 3), x(api.Ne, 4)), of("a", x(api.Eq, 5)), true}, {of("a", x(api.Gt, 3), x(api.Lt, 9)), of("a", x(api.Ge, 4), x(api.Le, 8)), true}, {of("a", x(api.Gt, 3), x(api.Lt, 9)), of("a", x(api.Ge, 4), x(api.Le, 9)), false},
		{of("a", x(api.Gt, 3), has("x"), x(api.Gt, 3)), of("a", x(api.Gt, 3)), true}, {of("a", x(api.Gt, 3)), of("a", x(api.Gt, 3), x(api.Lt, 9), has("y")), true},
		// Not asked: what two of them imply together.
		{of("a", x(api.Eq, 4)), of("a", x(api.Gt, 3), x(api.Lt, 5)), false}, {of("a", x(api.Lt, 9)), of("a", x(api.Ge, 3), x(api.Ne, 3)), false}, {of("a", x(api.Gt, 5)), of("a", x(api.Eq, 3), x(api.Eq, 4)), false}, {of("a", x(api.Gt, 3)), of("a", x(api.Ge, 3), x(api.Ne, 3)), false},
		// One that is void has no events: all others cover it, in whatever scope; it covers such alone.
		{of("b", has("y")), of("a", c("x", api.Lt, num(nan))), true}, {of("a/b", x(api.Eq, 3)), of("", c("x", api.Prefix, whole(1)), has("y")), true}, {of("a", x(api.Eq, 3)), of("b", has("y"), c("x", api.Lt, num(nan))), true}, {of("b", c("y", api.Gt, num(nan))), of("a", c("x", api.Lt, num(nan))), true},
		{of("", c("x", api.Lt, num(nan))), of("a", x(api.Lt, 3)), false}, {of("", c("x", api.Lt, num(nan))), of(""), false}, {of("", c("x", api.Lt, num(nan))), of("", c("x", api.Has, num(nan))), false}, {of("", has("x"), c("x", api.Prefix, num(1))), of("", x(api.Eq, 1)), false},
	} {
		if filter.Covers(k.f, k.g) != k.want {
			t.Errorf("%q covers %q is not %v", filter.Print(k.f), filter.Print(k.g), k.want)
		}
	}
}

// pairs: filters to be held against one another.
func pairs() []api.Filter {
	all := lists()
	var l []api.Filter
	for i := 0; i < len(all); i += 1 + i%7 {
		l = append(l, of(scopes[(i*3)%len(scopes)], all[i]...), of("a", all[i]...))
	}
	return l
}

// TestCoversAll: by the words, over all pairs; it covers just what its Norm does, and itself.
func TestCoversAll(t *testing.T) {
	l := pairs()
	for _, f := range l {
		norm := filter.Norm(f)
		if !filter.Covers(f, f) {
			t.Fatalf("%q doesn't cover itself", filter.Print(f))
		}
		for _, g := range l {
			want := scope.Under(g.Scope, f.Scope)
			for _, a := range f.Conds {
				want = want && slices.ContainsFunc(g.Conds, func(b api.Cond) bool { return cond.Implies(b, a) })
			}
			want = want || slices.ContainsFunc(g.Conds, cond.Void)
			if filter.Covers(f, g) != want || filter.Covers(norm, g) != want {
				t.Fatalf("%q covers %q is not %v", filter.Print(f), filter.Print(g), want)
			}
		}
	}
}

// TestCoversMatch: P7.2: whom one covers has no event that it hasn't.
func TestCoversMatch(t *testing.T) {
	l, es := pairs(), events()
	has := make([][]int, len(l))
	for i, f := range l {
		for n, e := range es {
			if filter.Match(f, e) {
				has[i] = append(has[i], n)
			}
		}
	}
	covered := 0
	for i, f := range l {
		for j, g := range l {
			if !filter.Covers(f, g) {
				continue
			}
			for _, n := range has[j] {
				covered++
				if !slices.Contains(has[i], n) {
					t.Fatalf("%q covers %q, which has %s alone", filter.Print(f), filter.Print(g), event.Print(es[n]))
				}
			}
		}
	}
	if covered == 0 {
		t.Error("nothing covers anything")
	}
}

func TestPrint(t *testing.T) {
	for _, k := range []struct {
		f    api.Filter
		want string
	}{
		{of(""), ":"}, {of("a"), "a:"}, {of("a/b/c/d"), "a/b/c/d:"}, {api.Filter{Conds: []api.Cond{}}, ":"}, {of("", has("x")), ": has x"},
		{of("a/b", c("price", api.Ge, num(3)), has("x")), "a/b: price >= 3.0 & has x"},
		// As they stand: in their order, each of them, as they are.
		{of("a", has("x"), x(api.Ne, 2)), "a: has x & x != 2"}, {of("a", x(api.Ne, 2), has("x")), "a: x != 2 & has x"}, {of("a", x(api.Gt, 3), x(api.Gt, 3), x(api.Gt, 1)), "a: x > 3 & x > 3 & x > 1"},
		{of("a", c("x", api.Eq, text("a & b: c")), c("y", api.Prefix, text("\"\n"))), `a: x = "a & b: c" & y ^ "\"\n"`}, {of("a", c("x", api.Lt, num(nan)), c("y", api.Le, num(minus)), c("z", api.Eq, yes(true))), "a: x < NaN & y <= 0.0 & z = yes"},
		{of("A b:", c("", 8, whole(1))), "A b::   1"}, {of("//", c("x", -1, text("x")), has("")), `//: x  "x" & has `},
	} {
		if got := filter.Print(k.f); got != k.want {
			t.Errorf("Print: %q, not %q", got, k.want)
		}
	}
	for _, l := range lists() {
		var parts []string
		for _, a := range l {
			parts = append(parts, " "+cond.Print(a))
		}
		if got, want := filter.Print(of("a/b", l...)), "a/b:"+strings.Join(parts, " &"); got != want {
			t.Errorf("Print: %q, not %q", got, want)
		}
	}
}

func TestKey(t *testing.T) {
	for _, k := range []struct {
		f    api.Filter
		want string
	}{
		{of(""), ":"}, {of("a/b"), "a/b:"}, {of("a", x(api.Gt, 3)), "a: x > 3"},
		{of("a", has("x"), x(api.Gt, 3), x(api.Gt, 1), x(api.Gt, 3)), "a: x > 3"},
		{of("a/b", c("price", api.Ge, num(3)), has("x")), "a/b: has x & price >= 3.0"}, {of("a/b", has("x"), c("price", api.Ge, num(3))), "a/b: has x & price >= 3.0"},
		{of("", c("x", api.Le, num(minus)), c("x", api.Has, text("q"))), ": x <= 0.0"}, {of("", c("x", api.Gt, num(other)), c("x", api.Prefix, yes(true)), x(api.Eq, 3)), ": x > NaN"},
	} {
		if got := filter.Key(k.f); got != k.want {
			t.Errorf("Key of %q: %q, not %q", filter.Print(k.f), got, k.want)
		}
	}
}

// TestKeyAll: it is Print of Norm, and two have one just if they have one Norm.
func TestKeyAll(t *testing.T) {
	norms := map[string]api.Filter{}
	for i, l := range lists() {
		f := of(scopes[i%len(scopes)], l...)
		norm, key := filter.Norm(f), filter.Key(f)
		if key != filter.Print(norm) || filter.Key(norm) != key {
			t.Errorf("Key of %q: %q", filter.Print(f), key)
		}
		if first, ok := norms[key]; ok && !same(first, norm) {
			t.Errorf("%q and %q: one key", filter.Print(first), filter.Print(norm))
		}
		norms[key] = norm
	}
}

// TestOthers: of filters that aren't Right too each call answers, and of like ones the same.
func TestOthers(t *testing.T) {
	l := strange()
	for _, f := range l {
		g := clone(f)
		if filter.Right(f) {
			t.Errorf("Right(%q)", filter.Print(f))
		}
		if !same(filter.Norm(f), filter.Norm(g)) || filter.Print(f) != filter.Print(g) || filter.Key(f) != filter.Key(g) || filter.Key(f) != filter.Print(filter.Norm(f)) {
			t.Errorf("not the same of %q", filter.Print(f))
		}
		for _, h := range l {
			_, _ = filter.Covers(f, h), filter.Void(h)
		}
		for _, e := range append(events(), api.Event{Scope: "/"}, api.Event{Scope: "\xff", Attrs: []api.Attr{{}, {Name: "A", Value: api.Value{Kind: 9}}}}) {
			_ = filter.Match(f, e)
		}
	}
	if !same(filter.Norm(api.Filter{}), filter.Norm(api.Filter{Conds: []api.Cond{}})) {
		t.Error("no conditions, and none")
	}
}

// TestKeeps: no call changes what it is handed, nor what stands behind it; what Norm answers is its own.
func TestKeeps(t *testing.T) {
	es := events()
	check := func(f api.Filter) {
		behind := c("behind", api.Ge, num(2))
		room := append(slices.Clone(f.Conds), behind)
		g := api.Filter{Scope: f.Scope, Conds: room[:len(f.Conds)]} // there is room behind it
		norm := filter.Norm(g)
		key, text := filter.Key(g), filter.Print(g)
		_, _, _, _ = filter.Right(g), filter.Void(g), filter.Covers(g, f), filter.Covers(f, g)
		_ = filter.Match(g, es[len(text)%len(es)])
		if !same(f, g) || !alike(room[len(f.Conds)], behind) {
			t.Fatalf("%q became %q", filter.Print(f), filter.Print(g))
		}
		again := filter.Norm(g)
		for i := range norm.Conds {
			norm.Conds[i] = behind
		}
		_ = append(norm.Conds, behind)
		if !same(f, g) || !alike(room[len(f.Conds)], behind) || !same(filter.Norm(g), again) || filter.Key(g) != key || filter.Print(g) != text {
			t.Fatalf("%q shares what its Norm has", filter.Print(f))
		}
	}
	for i, l := range lists() {
		check(of(scopes[i%len(scopes)], l...))
	}
	for _, f := range strange() {
		check(f)
	}
	for i, e := range es {
		f := of("", few()[i%len(few())])
		want := event.Print(e)
		if filter.Match(f, e); event.Print(e) != want {
			t.Errorf("%s became %s", want, event.Print(e))
		}
	}
}
