package cond_test

import (
	"math"
	"slices"
	"strings"
	"testing"

	"gazette/api"
	"gazette/cond"
	"gazette/value"
)

var (
	minus = math.Copysign(0, -1)
	inf   = math.Inf(1)
	nan   = math.NaN()
	other = math.Float64frombits(0xfff0000000000001) // a NaN of other bits
)

func whole(n int64) api.Value     { return api.Value{Kind: api.Int, Int: n} }
func num(x float64) api.Value     { return api.Value{Kind: api.Num, Num: x} }
func text(s string) api.Value     { return api.Value{Kind: api.Text, Text: s} }
func yes(b bool) api.Value        { return api.Value{Kind: api.Bool, Yes: b} }
func odd(k int, b bool) api.Value { return api.Value{Kind: k, Yes: b} }

// c: a condition of a.
func c(op int, v api.Value) api.Cond { return api.Cond{Name: "a", Op: op, Value: v} }

// ops: all that are; strangeOps: some that aren't.
var (
	ops        = []int{api.Eq, api.Ne, api.Lt, api.Le, api.Gt, api.Ge, api.Prefix, api.Has}
	strangeOps = []int{8, 9, -1, -8, 256, math.MaxInt, math.MinInt}
	words      = []string{"=", "!=", "<", "<=", ">", ">=", "^", "has"}
)

// strangeKinds: of values; there are none such.
var strangeKinds = []int{4, 5, -1, math.MaxInt, math.MinInt}

// alike: laid alike, signs of noughts and all (== doesn't tell these); any NaN is like any other.
func alike(a, b api.Value) bool {
	num := math.Float64bits(a.Num) == math.Float64bits(b.Num) || math.IsNaN(a.Num) && math.IsNaN(b.Num)
	return num && a.Kind == b.Kind && a.Int == b.Int && a.Text == b.Text && a.Yes == b.Yes
}

// rising: of each Kind, values that rise.
var rising = [][]api.Value{
	{whole(math.MinInt64), whole(-7), whole(-1), whole(0), whole(1), whole(2), whole(3), whole(1 << 53), whole(1<<53 + 1), whole(math.MaxInt64)},
	{num(-inf), num(-math.MaxFloat64), num(-2.5), num(-5e-324), num(0), num(5e-324), num(1), num(2), num(3), num(math.MaxFloat64), num(inf)},
	{text(""), text("\x00"), text("A"), text("a"), text("a\x00"), text("a1"), text("ab"), text("abc"), text("b"), text("ba"), text("\u00e4"), text("\xe4"), text("\xff")},
	{yes(false), yes(true)},
}

// values: those of rising, NaNs and noughts, such as aren't kept so, such as aren't Right, and such as are of no Kind.
func values() []api.Value {
	l := slices.Concat(rising...)
	l = append(l, num(minus), num(nan), num(other), text(strings.Repeat("a", 40)), text(strings.Repeat("a", 41)))
	for k := range 4 {
		l = append(l, api.Value{Kind: k, Int: 2, Num: nan, Text: "ab", Yes: true}, api.Value{Kind: k, Int: -7, Num: 2, Text: "a"})
	}
	for _, k := range strangeKinds {
		l = append(l, odd(k, false), odd(k, true), api.Value{Kind: k, Int: 3, Num: nan, Text: "abc", Yes: true})
	}
	return l
}

// conds: of all ops, and of such as are none, with all values.
func conds() []api.Cond {
	var l []api.Cond
	for _, op := range slices.Concat(ops, strangeOps) {
		for _, v := range values() {
			l = append(l, c(op, v))
		}
	}
	return l
}

func TestRight(t *testing.T) {
	names := map[string]int{
		"a": 1, "z9": 1, "abcdefghijkl": 1, "has": 1, "yes": 1,
		"": 0, "A": 0, "1a": 0, "a b": 0, "a_": 0, "abcdefghijklm": 0, "\u00e4": 0, "a\x00": 0, "a/b": 0, "=": 0,
	}
	right := []api.Value{
		whole(0), whole(-7), whole(math.MinInt64), num(2.5), num(nan), num(other), num(minus), num(-inf), text(""), text("\xff"), text(strings.Repeat("x", 40)), yes(false), yes(true), {},
		{Kind: api.Bool, Int: 1, Num: nan, Text: strings.Repeat("x", 40), Yes: true},
	}
	wrong := []api.Value{text(strings.Repeat("x", 41)), odd(4, false), odd(-1, true), odd(math.MaxInt, false), odd(math.MinInt, false)}
	for name, good := range names {
		for _, op := range slices.Concat(ops, strangeOps) {
			for _, v := range right {
				want := good == 1 && slices.Contains(ops, op)
				if x := (api.Cond{Name: name, Op: op, Value: v}); cond.Right(x) != want {
					t.Errorf("Right(%#v) is not %v", x, want)
				}
			}
			for _, v := range wrong { // of Has too
				if x := (api.Cond{Name: name, Op: op, Value: v}); cond.Right(x) {
					t.Errorf("not Right(%#v)", x)
				}
			}
		}
	}
}

func TestCanon(t *testing.T) {
	for _, k := range []struct{ in, want api.Value }{
		{whole(3), whole(3)}, {num(minus), num(0)}, {num(other), num(nan)}, {num(2.5), num(2.5)}, {num(-inf), num(-inf)}, {text("ab"), text("ab")}, {yes(true), yes(true)}, {yes(false), yes(false)},
		{api.Value{Kind: api.Int, Int: 1, Num: 2, Text: "x", Yes: true}, whole(1)}, {api.Value{Kind: api.Num, Int: 1, Num: 2, Text: "x", Yes: true}, num(2)},
		{api.Value{Kind: api.Text, Int: 1, Num: 2, Text: "x", Yes: true}, text("x")}, {api.Value{Kind: api.Bool, Int: 1, Num: nan, Text: "x", Yes: true}, yes(true)},
		{api.Value{Kind: 4, Int: 1, Yes: true}, api.Value{}}, {api.Value{Kind: -1, Num: nan}, api.Value{}}, {text(strings.Repeat("x", 41)), text(strings.Repeat("x", 41))},
	} {
		for _, name := range []string{"a", "abcdefghijkl", "", "A b"} {
			for _, op := range slices.Concat(ops, strangeOps) {
				want := k.want
				if op == api.Has {
					want = api.Value{}
				}
				got := cond.Canon(api.Cond{Name: name, Op: op, Value: k.in})
				if got.Name != name || got.Op != op || !alike(got.Value, want) {
					t.Errorf("Canon of %q, Op %d, %#v = %#v", name, op, k.in, got)
				}
			}
		}
	}
}

func TestVoid(t *testing.T) {
	for _, x := range conds() {
		none := x.Value.Kind == api.Num && math.IsNaN(x.Value.Num)
		want := x.Op != api.Has && (none || x.Op == api.Prefix && x.Value.Kind != api.Text)
		if cond.Void(x) != want {
			t.Errorf("Void(%#v) is not %v", x, want)
		}
	}
	for _, x := range []api.Cond{
		c(api.Eq, num(nan)), c(api.Ne, num(nan)), c(api.Lt, num(nan)), c(api.Le, num(nan)), c(api.Gt, num(other)), c(api.Ge, num(nan)), c(api.Prefix, num(nan)),
		c(api.Prefix, num(1)), c(api.Prefix, whole(1)), c(api.Prefix, yes(true)), c(api.Prefix, api.Value{Kind: api.Int, Text: "a"}),
	} {
		if !cond.Void(x) {
			t.Errorf("Void(%#v)", x)
		}
	}
	for _, x := range []api.Cond{
		c(api.Has, num(nan)), c(api.Has, api.Value{}), c(api.Prefix, text("")), c(api.Prefix, text("a")), c(api.Eq, num(inf)), c(api.Lt, num(-inf)), c(api.Lt, text("")), c(api.Lt, yes(false)),
		c(api.Eq, api.Value{Kind: api.Int, Num: nan}), c(api.Prefix, api.Value{Kind: api.Text, Num: nan}), c(api.Lt, whole(math.MinInt64)),
	} {
		if cond.Void(x) {
			t.Errorf("not Void(%#v)", x)
		}
	}
}

// TestVoidHolds: no value does for one that is void.
func TestVoidHolds(t *testing.T) {
	for _, x := range conds() {
		for _, v := range values() {
			if cond.Void(x) && cond.Holds(x, v) {
				t.Errorf("%#v is void, and holds for %#v", x, v)
			}
		}
	}
}

// TestHolds: by the places of values that rise.
func TestHolds(t *testing.T) {
	for _, l := range rising {
		for i, v := range l {
			for j, w := range l {
				want := []bool{i == j, i != j, i < j, i <= j, i > j, i >= j}
				for op := api.Eq; op <= api.Ge; op++ {
					if cond.Holds(c(op, w), v) != want[op] {
						t.Errorf("%s of %s is not %v", cond.Print(c(op, w)), value.Print(v), want[op])
					}
				}
			}
		}
	}
}

// TestHoldsApart: of values of two Kinds, and of those that are none, nothing is told, not even that they aren't alike.
func TestHoldsApart(t *testing.T) {
	all := append(values(), whole(1), num(1), text("1"), yes(true))
	for _, v := range all {
		for _, w := range all {
			none := math.IsNaN(v.Num) && v.Kind == api.Num || math.IsNaN(w.Num) && w.Kind == api.Num
			if v.Kind == w.Kind && !none {
				continue
			}
			for op := api.Eq; op <= api.Prefix; op++ {
				if cond.Holds(c(op, w), v) {
					t.Errorf("%#v holds for %#v", c(op, w), v)
				}
			}
		}
	}
}

// TestHoldsKept: it is as Compare says: another field than that of the Kind counts not, nor does a nought's sign; of no Kind Yes does.
func TestHoldsKept(t *testing.T) {
	for _, v := range values() {
		for _, w := range values() {
			n, ok := value.Compare(v, w)
			want := []bool{n == 0, n != 0, n < 0, n <= 0, n > 0, n >= 0}
			for op := api.Eq; op <= api.Ge; op++ {
				if cond.Holds(c(op, w), v) != (ok && want[op]) {
					t.Errorf("%#v of %#v is not %v", c(op, w), v, ok && want[op])
				}
			}
		}
	}
	if !cond.Holds(c(api.Eq, num(0)), num(minus)) || !cond.Holds(c(api.Ge, num(0)), num(minus)) || cond.Holds(c(api.Lt, num(0)), num(minus)) {
		t.Error("the two noughts are not alike")
	}
	if !cond.Holds(c(api.Eq, odd(4, true)), odd(4, true)) || !cond.Holds(c(api.Lt, odd(-1, true)), odd(-1, false)) || cond.Holds(c(api.Eq, odd(4, true)), odd(5, true)) {
		t.Error("values of no Kind go not by Yes")
	}
}

func TestHoldsPrefix(t *testing.T) {
	for _, k := range []struct {
		start, s string
		want     bool
	}{
		{"", "", true}, {"", "a", true}, {"a", "", false}, {"a", "a", true}, {"a", "ab", true}, {"ab", "a", false}, {"ab", "abc", true}, {"ab", "ab", true}, {"ab", "ac", false}, {"b", "ab", false}, {"a", "A", false}, {"abc", "ab", false},
		{"\xc3", "\u00e4", true}, {"\xff", "\xff\x00", true}, {"a\x00", "a\x00b", true}, {"a\x00", "a", false}, {strings.Repeat("x", 40), strings.Repeat("x", 40), true}, {strings.Repeat("x", 40), strings.Repeat("x", 39), false},
	} {
		if cond.Holds(c(api.Prefix, text(k.start)), text(k.s)) != k.want {
			t.Errorf("^ %q of %q is not %v", k.start, k.s, k.want)
		}
	}
	for _, v := range values() { // where one of the two is no text, whatever stands in Text
		v.Text = "ab"
		want := v.Kind == api.Text
		if cond.Holds(c(api.Prefix, text("a")), v) != want || cond.Holds(c(api.Prefix, v), text("abc")) != want {
			t.Errorf("^ of and with %#v is not %v", v, want)
		}
		if cond.Holds(c(api.Prefix, v), v) != want {
			t.Errorf("^ of itself, %#v, is not %v", v, want)
		}
	}
}

// TestHoldsHas: of any value; of an op that is none: of no value.
func TestHoldsHas(t *testing.T) {
	for _, v := range values() {
		for _, w := range values() {
			if !cond.Holds(c(api.Has, w), v) {
				t.Errorf("has doesn't hold for %#v", v)
			}
			for _, op := range strangeOps {
				if cond.Holds(c(op, w), v) {
					t.Errorf("%#v holds for %#v", c(op, w), v)
				}
			}
		}
	}
}

func TestMatch(t *testing.T) {
	e := api.Event{Scope: "s", Attrs: []api.Attr{{Name: "a", Value: num(3)}, {Name: "ab", Value: text("abc")}, {Name: "b", Value: num(nan)}, {Name: "c", Value: yes(true)}}}
	of := func(name string, op int, v api.Value) api.Cond { return api.Cond{Name: name, Op: op, Value: v} }
	for _, k := range []struct {
		c    api.Cond
		want bool
	}{
		{of("a", api.Eq, num(3)), true}, {of("a", api.Eq, num(2)), false}, {of("a", api.Lt, num(4)), true}, {of("a", api.Gt, num(4)), false}, {of("a", api.Ne, num(4)), true}, {of("a", api.Eq, whole(3)), false}, {of("a", api.Ne, whole(4)), false},
		{of("ab", api.Prefix, text("ab")), true}, {of("ab", api.Prefix, text("b")), false}, {of("a", api.Prefix, text("")), false}, {of("ab", api.Eq, text("abc")), true},
		{of("a", api.Has, api.Value{}), true}, {of("b", api.Has, api.Value{}), true}, {of("c", api.Has, num(nan)), true}, {of("d", api.Has, api.Value{}), false}, {of("", api.Has, api.Value{}), false}, {of("A", api.Has, api.Value{}), false}, {of("abc", api.Has, api.Value{}), false}, {of("s", api.Has, api.Value{}), false},
		{of("b", api.Eq, num(nan)), false}, {of("b", api.Ne, num(1)), false}, {of("b", api.Le, num(inf)), false}, {of("d", api.Ne, num(1)), false}, {of("d", api.Eq, api.Value{}), false},
		{of("c", api.Eq, yes(true)), true}, {of("c", api.Gt, yes(false)), true}, {of("c", api.Eq, yes(false)), false}, {of("c", 8, yes(true)), false}, {of("c", -1, yes(true)), false},
	} {
		if cond.Match(k.c, e) != k.want {
			t.Errorf("Match(%s) is not %v", cond.Print(k.c), k.want)
		}
		if cond.Match(k.c, api.Event{Scope: "a"}) {
			t.Errorf("%s matches an event without attributes", cond.Print(k.c))
		}
	}
}

// TestMatchAll: wherever the attribute stands, and also where names don't rise.
func TestMatchAll(t *testing.T) {
	for _, x := range conds() {
		for _, v := range values() {
			want := cond.Holds(x, v)
			for _, l := range [][]api.Attr{
				{{Name: "a", Value: v}}, {{Name: "a", Value: v}, {Name: "b", Value: whole(1)}}, {{Name: "", Value: num(1)}, {Name: "a", Value: v}, {Name: "b", Value: v}}, {{Name: "b", Value: v}, {Name: "a", Value: v}},
			} {
				if cond.Match(x, api.Event{Attrs: l}) != want {
					t.Fatalf("Match(%#v, %#v) is not %v", x, l, want)
				}
			}
			if cond.Match(x, api.Event{Attrs: []api.Attr{{Name: "aa", Value: v}, {Name: "b", Value: v}}}) {
				t.Fatalf("Match(%#v) of other names", x)
			}
		}
	}
	twice := api.Event{Attrs: []api.Attr{{Name: "a", Value: num(1)}, {Name: "a", Value: num(2)}}}
	if !cond.Match(c(api.Eq, num(1)), twice) || !cond.Match(c(api.Eq, num(2)), twice) || cond.Match(c(api.Eq, num(3)), twice) {
		t.Error("of an attribute that is there twice")
	}
}

func TestImplies(t *testing.T) {
	has := c(api.Has, api.Value{})
	for _, k := range []struct {
		a, b api.Cond
		want bool
	}{
		// The document's examples.
		{c(api.Lt, num(3)), c(api.Le, num(3)), true}, {c(api.Lt, num(3)), c(api.Ne, num(5)), true}, {c(api.Gt, num(5)), c(api.Gt, num(3)), true}, {c(api.Gt, num(3)), c(api.Gt, num(5)), false},
		// Eq: what the other one says of its value.
		{c(api.Eq, num(3)), c(api.Eq, num(3)), true}, {c(api.Eq, num(3)), c(api.Eq, num(2)), false}, {c(api.Eq, num(0)), c(api.Eq, num(minus)), true}, {c(api.Eq, num(3)), c(api.Ne, num(2)), true}, {c(api.Eq, num(3)), c(api.Ne, num(3)), false}, {c(api.Eq, num(3)), c(api.Lt, num(4)), true}, {c(api.Eq, num(3)), c(api.Lt, num(3)), false},
		{c(api.Eq, num(3)), c(api.Le, num(3)), true}, {c(api.Eq, num(3)), c(api.Gt, num(2)), true}, {c(api.Eq, num(3)), c(api.Gt, num(3)), false}, {c(api.Eq, num(3)), c(api.Ge, num(3)), true}, {c(api.Eq, num(3)), c(api.Ge, num(4)), false}, {c(api.Eq, text("abc")), c(api.Prefix, text("ab")), true}, {c(api.Eq, text("ab")), c(api.Prefix, text("abc")), false},
		{c(api.Eq, text("b")), c(api.Gt, text("ab")), true}, {c(api.Eq, whole(3)), c(api.Ge, whole(3)), true}, {c(api.Eq, yes(true)), c(api.Ne, yes(false)), true}, {c(api.Eq, yes(true)), c(api.Gt, yes(false)), true}, {c(api.Eq, yes(false)), c(api.Gt, yes(false)), false},
		// Ne: the same one.
		{c(api.Ne, num(3)), c(api.Ne, num(3)), true}, {c(api.Ne, num(0)), c(api.Ne, num(minus)), true}, {c(api.Ne, num(3)), c(api.Ne, num(2)), false}, {c(api.Ne, num(3)), c(api.Lt, num(3)), false}, {c(api.Ne, num(3)), c(api.Eq, num(3)), false}, {c(api.Ne, num(3)), c(api.Eq, num(2)), false}, {c(api.Ne, num(-inf)), c(api.Gt, num(-inf)), false}, {c(api.Ne, num(3)), c(api.Le, num(inf)), false},
		{c(api.Ne, yes(true)), c(api.Eq, yes(false)), false}, {c(api.Ne, text("a")), c(api.Prefix, text("")), false}, {c(api.Ne, text("a")), c(api.Ne, text("a")), true}, {c(api.Ne, text("a")), c(api.Ge, text("")), false},
		// Prefix: a shorter one, or Ne of what doesn't begin so.
		{c(api.Prefix, text("abc")), c(api.Prefix, text("ab")), true}, {c(api.Prefix, text("ab")), c(api.Prefix, text("ab")), true}, {c(api.Prefix, text("ab")), c(api.Prefix, text("")), true}, {c(api.Prefix, text("ab")), c(api.Prefix, text("abc")), false}, {c(api.Prefix, text("ab")), c(api.Prefix, text("b")), false}, {c(api.Prefix, text("")), c(api.Prefix, text("a")), false},
		{c(api.Prefix, text("ab")), c(api.Ne, text("b")), true}, {c(api.Prefix, text("ab")), c(api.Ne, text("a")), true}, {c(api.Prefix, text("ab")), c(api.Ne, text("")), true}, {c(api.Prefix, text("ab")), c(api.Ne, text("ab")), false}, {c(api.Prefix, text("ab")), c(api.Ne, text("abc")), false}, {c(api.Prefix, text("")), c(api.Ne, text("a")), false}, {c(api.Prefix, text("")), c(api.Ne, text("")), false},
		{c(api.Prefix, text("ab")), c(api.Ge, text("ab")), false}, {c(api.Prefix, text("ab")), c(api.Gt, text("a")), false}, {c(api.Prefix, text("ab")), c(api.Lt, text("b")), false}, {c(api.Prefix, text("ab")), c(api.Le, text("b")), false}, {c(api.Prefix, text("ab")), c(api.Eq, text("ab")), false},
		// Lt, Le.
		{c(api.Lt, num(2)), c(api.Lt, num(3)), true}, {c(api.Lt, num(3)), c(api.Lt, num(3)), true}, {c(api.Lt, num(4)), c(api.Lt, num(3)), false}, {c(api.Lt, num(2)), c(api.Le, num(3)), true}, {c(api.Lt, num(4)), c(api.Le, num(3)), false},
		{c(api.Le, num(2)), c(api.Lt, num(3)), true}, {c(api.Le, num(3)), c(api.Lt, num(3)), false}, {c(api.Le, num(4)), c(api.Lt, num(3)), false}, {c(api.Le, num(2)), c(api.Le, num(3)), true}, {c(api.Le, num(3)), c(api.Le, num(3)), true}, {c(api.Le, num(4)), c(api.Le, num(3)), false},
		{c(api.Lt, num(3)), c(api.Ne, num(3)), true}, {c(api.Lt, num(4)), c(api.Ne, num(3)), false}, {c(api.Le, num(3)), c(api.Ne, num(3)), false}, {c(api.Le, num(2)), c(api.Ne, num(3)), true}, {c(api.Le, num(4)), c(api.Ne, num(3)), false},
		{c(api.Lt, num(3)), c(api.Gt, num(2)), false}, {c(api.Lt, num(3)), c(api.Ge, num(3)), false}, {c(api.Le, num(3)), c(api.Ge, num(-inf)), false}, {c(api.Lt, num(3)), c(api.Eq, num(2)), false}, {c(api.Le, num(3)), c(api.Eq, num(3)), false}, {c(api.Lt, num(minus)), c(api.Lt, num(0)), true}, {c(api.Le, num(0)), c(api.Le, num(minus)), true},
		{c(api.Le, num(-inf)), c(api.Eq, num(-inf)), false}, {c(api.Lt, num(-inf)), c(api.Gt, num(1)), false}, {c(api.Lt, num(-inf)), c(api.Lt, num(-inf)), true}, {c(api.Lt, text("a")), c(api.Le, text("ab")), true}, {c(api.Lt, text("ab")), c(api.Le, text("a")), false}, {c(api.Lt, text("b")), c(api.Prefix, text("")), false}, {c(api.Lt, text("b")), c(api.Ne, text("b")), true},
		// Gt, Ge.
		{c(api.Gt, num(4)), c(api.Gt, num(3)), true}, {c(api.Gt, num(3)), c(api.Gt, num(3)), true}, {c(api.Gt, num(2)), c(api.Gt, num(3)), false}, {c(api.Gt, num(4)), c(api.Ge, num(3)), true}, {c(api.Gt, num(3)), c(api.Ge, num(3)), true}, {c(api.Gt, num(2)), c(api.Ge, num(3)), false},
		{c(api.Ge, num(4)), c(api.Gt, num(3)), true}, {c(api.Ge, num(3)), c(api.Gt, num(3)), false}, {c(api.Ge, num(2)), c(api.Gt, num(3)), false}, {c(api.Ge, num(4)), c(api.Ge, num(3)), true}, {c(api.Ge, num(3)), c(api.Ge, num(3)), true}, {c(api.Ge, num(2)), c(api.Ge, num(3)), false},
		{c(api.Gt, num(3)), c(api.Ne, num(3)), true}, {c(api.Gt, num(2)), c(api.Ne, num(3)), false}, {c(api.Ge, num(3)), c(api.Ne, num(3)), false}, {c(api.Ge, num(4)), c(api.Ne, num(3)), true}, {c(api.Ge, num(2)), c(api.Ne, num(3)), false},
		{c(api.Gt, num(3)), c(api.Lt, num(4)), false}, {c(api.Gt, num(3)), c(api.Le, num(3)), false}, {c(api.Ge, num(3)), c(api.Le, num(inf)), false}, {c(api.Gt, num(3)), c(api.Eq, num(4)), false}, {c(api.Ge, num(3)), c(api.Eq, num(3)), false}, {c(api.Gt, num(0)), c(api.Gt, num(minus)), true}, {c(api.Ge, num(minus)), c(api.Ge, num(0)), true},
		{c(api.Ge, num(inf)), c(api.Eq, num(inf)), false}, {c(api.Gt, num(inf)), c(api.Lt, num(1)), false}, {c(api.Ge, text("b")), c(api.Gt, text("ab")), true}, {c(api.Ge, text("")), c(api.Prefix, text("")), false},
		// Whole numbers, yes and no: by their values, not by those between.
		{c(api.Lt, whole(3)), c(api.Le, whole(2)), false}, {c(api.Lt, whole(3)), c(api.Le, whole(3)), true}, {c(api.Gt, whole(2)), c(api.Ge, whole(3)), false}, {c(api.Le, whole(2)), c(api.Lt, whole(3)), true}, {c(api.Lt, whole(1<<53)), c(api.Lt, whole(1<<53+1)), true}, {c(api.Lt, whole(1<<53+1)), c(api.Lt, whole(1<<53)), false},
		{c(api.Lt, whole(math.MinInt64)), c(api.Gt, whole(1)), false}, {c(api.Gt, whole(math.MinInt64)), c(api.Ne, whole(math.MinInt64)), true}, {c(api.Ge, whole(math.MaxInt64)), c(api.Gt, whole(math.MinInt64)), true}, {c(api.Lt, yes(true)), c(api.Eq, yes(false)), false}, {c(api.Lt, yes(true)), c(api.Ne, yes(true)), true}, {c(api.Le, yes(false)), c(api.Lt, yes(true)), true}, {c(api.Gt, yes(false)), c(api.Ge, yes(true)), false},
		// Has.
		{c(api.Eq, text("a")), has, true}, {c(api.Ne, num(3)), has, true}, {c(api.Lt, num(3)), has, true}, {c(api.Ge, whole(3)), has, true}, {c(api.Prefix, text("")), has, true}, {has, has, true}, {has, c(api.Has, text("x")), true}, {c(api.Eq, text("a")), c(api.Has, num(nan)), true},
		{has, c(api.Eq, text("a")), false}, {has, c(api.Eq, api.Value{}), false}, {has, c(api.Ne, whole(3)), false}, {has, c(api.Le, num(inf)), false}, {c(api.Has, text("")), c(api.Prefix, text("")), false}, {has, c(api.Lt, num(nan)), false}, {c(api.Has, num(nan)), c(api.Lt, num(1)), false},
		// Such as are void.
		{c(api.Gt, num(nan)), c(api.Lt, num(1)), true}, {c(api.Lt, num(1)), c(api.Gt, num(nan)), false}, {c(api.Gt, num(nan)), c(api.Lt, num(other)), true}, {c(api.Eq, num(nan)), c(api.Eq, text("a")), true}, {c(api.Ne, num(nan)), has, true}, {c(api.Prefix, num(1)), c(api.Prefix, text("a")), true}, {c(api.Prefix, whole(1)), c(api.Eq, yes(true)), true}, {c(api.Prefix, yes(true)), c(api.Prefix, num(1)), true},
		{c(api.Prefix, text("a")), c(api.Prefix, num(1)), false}, {c(api.Eq, num(1)), c(api.Prefix, num(1)), false}, {c(api.Ne, num(1)), c(api.Ne, num(nan)), false}, {c(api.Lt, num(1)), c(api.Ne, num(nan)), false}, {c(api.Eq, num(1)), c(api.Eq, num(nan)), false}, {c(api.Lt, num(1)), c(api.Lt, num(nan)), false},
		// Of two Kinds.
		{c(api.Eq, whole(3)), c(api.Eq, num(3)), false}, {c(api.Eq, whole(3)), c(api.Ne, num(4)), false}, {c(api.Lt, num(3)), c(api.Ne, whole(5)), false}, {c(api.Lt, num(3)), c(api.Lt, whole(5)), false}, {c(api.Prefix, text("a")), c(api.Ne, whole(5)), false}, {c(api.Ne, text("a")), c(api.Ne, api.Value{Kind: api.Int, Text: "a"}), false}, {c(api.Prefix, text("ab")), c(api.Ne, api.Value{Kind: api.Bool, Text: "b"}), false},
	} {
		if cond.Implies(k.a, k.b) != k.want {
			t.Errorf("%s implies %s is not %v", cond.Print(k.a), cond.Print(k.b), k.want)
		}
	}
}

// TestImpliesNames: conditions of two names say nothing of one another, void or not.
func TestImpliesNames(t *testing.T) {
	l := conds()
	for i, a := range l {
		b := l[(i*31+7)%len(l)]
		for _, name := range []string{"b", "aa", "", "A"} {
			other := api.Cond{Name: name, Op: b.Op, Value: b.Value}
			same := api.Cond{Name: name, Op: a.Op, Value: a.Value}
			if cond.Implies(a, other) || cond.Implies(other, a) || cond.Implies(a, same) || cond.Implies(same, a) {
				t.Fatalf("%#v and %#v", a, other)
			}
			if cond.Implies(same, other) != cond.Implies(a, b) {
				t.Fatalf("%#v and %#v: not as of the name a", same, other)
			}
		}
	}
}

// rightConds: those of conds that may be.
func rightConds() []api.Cond {
	return slices.DeleteFunc(conds(), func(x api.Cond) bool { return !cond.Right(x) })
}

// TestImpliesFirst: what is said ahead of all that hangs on the op: of such as are void, of Has, and of two Kinds.
func TestImpliesFirst(t *testing.T) {
	for _, a := range rightConds() {
		if !cond.Implies(a, a) {
			t.Errorf("%s doesn't imply itself", cond.Print(a))
		}
		for _, b := range rightConds() {
			got := cond.Implies(a, b)
			if cond.Void(a) || b.Op == api.Has {
				if !got {
					t.Errorf("%s doesn't imply %s", cond.Print(a), cond.Print(b))
				}
			} else if got && (a.Op == api.Has || cond.Void(b) || a.Value.Kind != b.Value.Kind) {
				t.Errorf("%s implies %s", cond.Print(a), cond.Print(b))
			}
		}
	}
}

// all: conditions of these ops and values.
func all(ops []int, values []api.Value) []api.Cond {
	var l []api.Cond
	for _, op := range ops {
		for _, v := range values {
			l = append(l, c(op, v))
		}
	}
	return l
}

// within: is each of these values for which one holds one for which another one holds?
func within(a, b api.Cond, values []api.Value) bool {
	return !slices.ContainsFunc(values, func(v api.Value) bool { return cond.Holds(a, v) && !cond.Holds(b, v) })
}

// TestImpliesNums: where between any two values another one lies, and beyond each one too, the document's rules tell just what is so.
func TestImpliesNums(t *testing.T) {
	asked := []api.Value{num(nan), text("a"), yes(true)}
	var told []api.Value
	for v := -9; v <= 9; v++ {
		asked = append(asked, num(float64(v)), whole(int64(v)))
		if v%3 == 0 && v > -9 && v < 9 {
			told = append(told, num(float64(v)), whole(int64(v)))
		}
	}
	l := all([]int{api.Eq, api.Ne, api.Lt, api.Le, api.Gt, api.Ge, api.Has}, told)
	for _, a := range l {
		for _, b := range l {
			if want := within(a, b, asked); cond.Implies(a, b) != want {
				t.Errorf("%s implies %s is not %v", cond.Print(a), cond.Print(b), want)
			}
		}
	}
}

// TestImpliesTexts: as TestImpliesNums, for what texts begin with. The rules tell all but that each text that isn't some other one begins with the empty one.
func TestImpliesTexts(t *testing.T) {
	var texts []api.Value
	last := []string{""}
	for range 5 {
		var next []string
		for _, s := range last {
			texts = append(texts, text(s))
			next = append(next, s+"a", s+"b", s+"c")
		}
		last = next
	}
	short := slices.DeleteFunc(slices.Clone(texts), func(v api.Value) bool { return len(v.Text) > 3 || strings.Contains(v.Text, "c") })
	l := all([]int{api.Eq, api.Ne, api.Prefix}, short)
	for _, a := range l {
		for _, b := range l {
			if want := within(a, b, texts) && !(a.Op == api.Ne && b.Op == api.Prefix); cond.Implies(a, b) != want {
				t.Errorf("%s implies %s is not %v", cond.Print(a), cond.Print(b), want)
			}
		}
	}
}

// TestImpliesHolds: P6.2, of all conditions and values, Right or not.
func TestImpliesHolds(t *testing.T) {
	l, vs := conds(), values()
	holds := make([][]bool, len(l))
	for i, a := range l {
		for _, v := range vs {
			holds[i] = append(holds[i], cond.Holds(a, v))
		}
	}
	implied := 0
	for i, a := range l {
		for j, b := range l {
			if !cond.Implies(a, b) {
				continue
			}
			for n, v := range vs {
				if holds[i][n] && !holds[j][n] {
					t.Fatalf("%#v implies %#v, and holds for %#v alone", a, b, v)
				}
				if holds[i][n] {
					implied++
				}
			}
		}
	}
	if implied == 0 {
		t.Error("nothing implies anything")
	}
}

// TestImpliesChain: what is implied by what is implied is implied.
func TestImpliesChain(t *testing.T) {
	l := all(ops, []api.Value{num(1), num(2), num(minus), num(nan), num(inf), whole(1), whole(2), text(""), text("a"), text("ab"), text("b"), yes(false), yes(true)})
	for _, a := range l {
		for _, b := range l {
			if !cond.Implies(a, b) {
				continue
			}
			for _, d := range l {
				if cond.Implies(b, d) && !cond.Implies(a, d) {
					t.Errorf("%s implies %s, which implies %s", cond.Print(a), cond.Print(b), cond.Print(d))
				}
			}
		}
	}
}

// TestImpliesKept: how a value is kept changes nothing.
func TestImpliesKept(t *testing.T) {
	for _, a := range rightConds() {
		for _, b := range rightConds() {
			if cond.Implies(cond.Canon(a), cond.Canon(b)) != cond.Implies(a, b) {
				t.Fatalf("%#v implies %#v: %v, but not so where they are Canon", a, b, cond.Implies(a, b))
			}
		}
	}
}

func TestWord(t *testing.T) {
	for op, want := range words {
		if got := cond.Word(op); got != want {
			t.Errorf("Word(%d) = %q", op, got)
		}
	}
	for _, op := range strangeOps {
		if got := cond.Word(op); got != "" {
			t.Errorf("Word(%d) = %q", op, got)
		}
	}
}

func TestPrint(t *testing.T) {
	for _, k := range []struct {
		c    api.Cond
		want string
	}{
		{c(api.Eq, num(3)), "a = 3.0"}, {c(api.Ne, whole(-7)), "a != -7"}, {c(api.Lt, num(minus)), "a < 0.0"}, {c(api.Le, num(inf)), "a <= +Inf"}, {c(api.Gt, num(other)), "a > NaN"}, {c(api.Ge, yes(true)), "a >= yes"}, {c(api.Prefix, text("p \"q\"\n")), `a ^ "p \"q\"\n"`}, {c(api.Prefix, num(1)), "a ^ 1.0"},
		{c(api.Has, api.Value{}), "has a"}, {c(api.Has, text("x")), "has a"}, {api.Cond{Name: "has", Op: api.Has}, "has has"}, {api.Cond{Name: "has", Op: api.Eq, Value: text("")}, `has = ""`}, {api.Cond{Name: "price", Op: api.Ge, Value: num(2.5)}, "price >= 2.5"}, {api.Cond{Name: "abcdefghijkl", Op: api.Eq, Value: yes(false)}, "abcdefghijkl = no"},
		{c(8, whole(1)), "a  1"}, {c(-1, text("x")), `a  "x"`}, {api.Cond{}, " = 0"}, {api.Cond{Op: api.Has}, "has "}, {api.Cond{Name: "A b", Op: api.Lt, Value: odd(4, true)}, "A b < yes"},
	} {
		if got := cond.Print(k.c); got != k.want {
			t.Errorf("Print(%#v) = %q", k.c, got)
		}
	}
	for _, x := range conds() {
		want := "a " + cond.Word(x.Op) + " " + value.Print(x.Value)
		if x.Op == api.Has {
			want = "has a"
		}
		if got := cond.Print(x); got != want {
			t.Errorf("Print(%#v) = %q", x, got)
		}
	}
}

// TestKeeps: no call changes what it is handed, and each answers the same again; Canon of Canon is itself.
func TestKeeps(t *testing.T) {
	for _, x := range conds() {
		y := cond.Canon(x)
		if z := cond.Canon(y); z.Name != y.Name || z.Op != y.Op || !alike(z.Value, y.Value) {
			t.Errorf("Canon of %#v = %#v", y, z)
		}
		e := api.Event{Scope: "s", Attrs: []api.Attr{{Name: "b", Value: x.Value}, {Name: "a", Value: x.Value}}}
		first := cond.Match(x, e)
		if cond.Match(x, e) != first || cond.Print(x) != cond.Print(x) || cond.Void(x) != cond.Void(x) || cond.Right(x) != cond.Right(x) {
			t.Errorf("not the same again of %#v", x)
		}
		if len(e.Attrs) != 2 || e.Scope != "s" || e.Attrs[0].Name != "b" || e.Attrs[1].Name != "a" || !alike(e.Attrs[0].Value, x.Value) || !alike(e.Attrs[1].Value, x.Value) {
			t.Errorf("changed: %#v", e)
		}
	}
}
