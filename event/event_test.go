package event_test

import (
	"fmt"
	"math"
	"math/rand"
	"slices"
	"sort"
	"strings"
	"testing"

	"gazette/api"
	"gazette/event"
	"gazette/value"
)

var (
	minus = math.Copysign(0, -1)
	inf   = math.Inf(1)
	nan   = math.NaN()
	other = math.Float64frombits(0xfff0000000000001) // a NaN of other bits
)

func whole(n int64) api.Value { return api.Value{Kind: api.Int, Int: n} }
func num(x float64) api.Value { return api.Value{Kind: api.Num, Num: x} }
func text(s string) api.Value { return api.Value{Kind: api.Text, Text: s} }
func yes(b bool) api.Value    { return api.Value{Kind: api.Bool, Yes: b} }

func attr(name string, v api.Value) api.Attr { return api.Attr{Name: name, Value: v} }

// made: an event as it stands, whatever New does.
func made(scope string, l ...api.Attr) api.Event { return api.Event{Scope: scope, Attrs: l} }

// values: such as are kept as they are, such as aren't, such as are not Right, such as are of no Kind.
func values() []api.Value {
	return []api.Value{
		whole(0), whole(1), whole(-7), whole(math.MaxInt64), whole(math.MinInt64), num(0), num(minus), num(1), num(-2.5), num(inf), num(-inf), num(nan), num(other),
		text(""), text("x"), text("a \"b\""), text("\xff\x00"), text(strings.Repeat("x", 40)), text(strings.Repeat("x", 41)), yes(false), yes(true),
		{Kind: api.Int, Int: 1, Text: "x"}, {Kind: api.Int, Num: nan}, {Kind: api.Num, Num: nan, Int: 1}, {Kind: api.Num, Num: 1, Yes: true}, {Kind: api.Text, Text: "x", Num: 1}, {Kind: api.Bool, Yes: true, Int: 1},
		{Kind: 4}, {Kind: -1}, {Kind: 4, Yes: true}, {Kind: math.MaxInt, Int: 1, Num: 2, Text: "x", Yes: true}, {Kind: math.MinInt, Num: nan},
	}
}

// alike: laid alike, signs of noughts and all (== doesn't tell these); any NaN is like any other.
func alike(a, b api.Value) bool {
	num := math.Float64bits(a.Num) == math.Float64bits(b.Num) || math.IsNaN(a.Num) && math.IsNaN(b.Num)
	return num && a.Kind == b.Kind && a.Int == b.Int && a.Text == b.Text && a.Yes == b.Yes
}

func alikeAttr(a, b api.Attr) bool { return a.Name == b.Name && alike(a.Value, b.Value) }

func alikeEvent(a, b api.Event) bool {
	return a.Scope == b.Scope && slices.EqualFunc(a.Attrs, b.Attrs, alikeAttr)
}

// scopes: an event's scope may be any.
var scopes = []string{"", "a", "a/b", "A b", "]", "//", "\xff\n", strings.Repeat("a/", 100)}

func TestName(t *testing.T) {
	for _, s := range []string{"a", "z", "m", "a0", "a9", "z5z", "abc", "x1y2", "abcdefghijkl", "zzzzzzzzzzzz", "a00000000000"} {
		if !event.Name(s) {
			t.Errorf("Name(%q)", s)
		}
	}
	for _, s := range []string{
		"", "0", "9", "1a", "5", "0abcdefghijk", "abcdefghijklm", "a000000000000", strings.Repeat("a", 1000), "A", "Z", "aB", "Ab", "abC",
		"a_", "_a", "a-b", "a b", " a", "a ", "a.b", "a/b", "a=", "\x00", "a\x00", "a\n", "a\x7f", "\xe4", "a\xff", "\u00e4", "a\u00e4", "\u0430", "a\u0661",
	} {
		if event.Name(s) {
			t.Errorf("not Name(%q)", s)
		}
	}
}

// TestNameBytes: each byte, alone, in the middle and at the end.
func TestNameBytes(t *testing.T) {
	for i := range 256 {
		c := string([]byte{byte(i)})
		small := strings.Contains("abcdefghijklmnopqrstuvwxyz", c)
		may := small || strings.Contains("0123456789", c)
		if event.Name(c) != small || event.Name(c+"a") != small || event.Name("a"+c) != may || event.Name("a"+c+"a") != may || event.Name("abcdefghijk"+c) != may {
			t.Errorf("Name of %q", c)
		}
	}
}

func TestNew(t *testing.T) {
	for _, c := range []struct {
		in, want []api.Attr
	}{
		{nil, nil},
		{[]api.Attr{attr("a", whole(1))}, []api.Attr{attr("a", whole(1))}},
		{[]api.Attr{attr("b", whole(1)), attr("a", whole(2))}, []api.Attr{attr("a", whole(2)), attr("b", whole(1))}},
		{[]api.Attr{attr("y", whole(1)), attr("x", whole(2)), attr("y", whole(3))}, []api.Attr{attr("x", whole(2)), attr("y", whole(3))}},
		{[]api.Attr{attr("a", whole(1)), attr("a", num(2)), attr("a", text("3")), attr("a", yes(true))}, []api.Attr{attr("a", yes(true))}},
		{[]api.Attr{attr("a", whole(3)), attr("b", whole(1)), attr("a", whole(2)), attr("b", whole(9)), attr("a", whole(1))}, []api.Attr{attr("a", whole(1)), attr("b", whole(9))}},
		{[]api.Attr{attr("a", yes(true)), attr("a", yes(true))}, []api.Attr{attr("a", yes(true))}},
		{[]api.Attr{attr("b", whole(1)), attr("ab", whole(2)), attr("a1", whole(3)), attr("a", whole(4)), attr("aa", whole(5))}, []api.Attr{attr("a", whole(4)), attr("a1", whole(3)), attr("aa", whole(5)), attr("ab", whole(2)), attr("b", whole(1))}},
		{[]api.Attr{attr("\xff", whole(1)), attr("", whole(2)), attr("A", whole(3)), attr("a", whole(4)), attr("", whole(5))}, []api.Attr{attr("", whole(5)), attr("A", whole(3)), attr("a", whole(4)), attr("\xff", whole(1))}},
		{[]api.Attr{attr("abcdefghijklm", whole(1)), attr("1", whole(2))}, []api.Attr{attr("1", whole(2)), attr("abcdefghijklm", whole(1))}},
		{[]api.Attr{attr("a", api.Value{Kind: api.Int, Int: 1, Num: 2, Text: "x", Yes: true}), attr("b", num(minus)), attr("c", num(other)), attr("d", api.Value{Kind: 4, Int: 7, Yes: true})}, []api.Attr{attr("a", whole(1)), attr("b", num(0)), attr("c", num(nan)), attr("d", api.Value{})}},
		{[]api.Attr{attr("a", text(strings.Repeat("x", 41)))}, []api.Attr{attr("a", text(strings.Repeat("x", 41)))}},
	} {
		for _, s := range scopes {
			if e := event.New(s, c.in...); !alikeEvent(e, made(s, c.want...)) {
				t.Errorf("New(%q, %#v) = %#v", s, c.in, e)
			}
		}
	}
}

// TestNewMany: more attributes than are Right are taken, by the same words.
func TestNewMany(t *testing.T) {
	var l []api.Attr
	for i := range 3000 {
		l = append(l, attr("n"+string(rune('a'+i*7%10)), whole(int64(i))))
	}
	e := event.New("a", l...)
	if len(e.Attrs) != 10 {
		t.Fatalf("%d attributes of 10 names", len(e.Attrs))
	}
	for i, a := range e.Attrs {
		if want := "n" + string(rune('a'+i)); a.Name != want {
			t.Errorf("attribute %d: %q, not %q", i, a.Name, want)
		}
		if a.Value.Int < 2990 {
			t.Errorf("of %q not the last one: %d", a.Name, a.Value.Int)
		}
	}
}

// TestNewRandom holds New against a map by names.
func TestNewRandom(t *testing.T) {
	r := rand.New(rand.NewSource(1))
	vs := values()
	for range 5000 {
		var l []api.Attr
		last := map[string]api.Value{}
		for range r.Intn(40) {
			a := attr(strings.Repeat(string(rune('a'+r.Intn(5))), r.Intn(4)), vs[r.Intn(len(vs))])
			l = append(l, a)
			last[a.Name] = value.Canon(a.Value)
		}
		var names []string
		for n := range last {
			names = append(names, n)
		}
		sort.Strings(names)
		want := made("a/b")
		for _, n := range names {
			want.Attrs = append(want.Attrs, attr(n, last[n]))
		}
		before := slices.Clone(l)
		if e := event.New("a/b", l...); !alikeEvent(e, want) {
			t.Fatalf("New(%#v) = %#v", l, e)
		}
		if !slices.EqualFunc(l, before, alikeAttr) {
			t.Fatalf("New changed what was handed in: %#v, %#v", before, l)
		}
	}
}

func TestGet(t *testing.T) {
	strange := api.Value{Kind: 4, Int: 7, Yes: true}
	e := made("a", attr("", text("none")), attr("a", whole(1)), attr("a1", num(minus)), attr("aa", num(nan)), attr("b", yes(true)), attr("z", strange))
	for _, a := range e.Attrs {
		if v, ok := event.Get(e, a.Name); !ok || !alike(v, a.Value) {
			t.Errorf("Get(%q) = %#v, %v", a.Name, v, ok)
		}
	}
	for _, n := range []string{"A", "ab", "a2", "a1 ", "c", "zz", "\x00", "\xff"} {
		if v, ok := event.Get(e, n); ok || !alike(v, api.Value{}) {
			t.Errorf("Get(%q) = %#v, %v", n, v, ok)
		}
	}
	for _, n := range []string{"", "a"} {
		if v, ok := event.Get(made("a"), n); ok || !alike(v, api.Value{}) {
			t.Errorf("Get(%q) of none = %#v, %v", n, v, ok)
		}
	}
}

func TestWithout(t *testing.T) {
	a, b, c := attr("a", whole(1)), attr("b", num(minus)), attr("c", api.Value{Kind: 4, Int: 7})
	for _, k := range []struct {
		in    []api.Attr
		names []string
		want  []api.Attr
	}{
		{nil, nil, nil}, {nil, []string{"a"}, nil},
		{[]api.Attr{a, b, c}, nil, []api.Attr{a, b, c}},
		{[]api.Attr{a, b, c}, []string{"a"}, []api.Attr{b, c}},
		{[]api.Attr{a, b, c}, []string{"b"}, []api.Attr{a, c}},
		{[]api.Attr{a, b, c}, []string{"c"}, []api.Attr{a, b}},
		{[]api.Attr{a, b, c}, []string{"c", "a"}, []api.Attr{b}},
		{[]api.Attr{a, b, c}, []string{"b", "c", "a"}, nil},
		{[]api.Attr{a, b, c}, []string{"a", "a", "x", "", "a"}, []api.Attr{b, c}},
		{[]api.Attr{a, b, c}, []string{"A", "ab", "", "d"}, []api.Attr{a, b, c}},
		{[]api.Attr{attr("", whole(1)), a}, []string{""}, []api.Attr{a}},
	} {
		for _, s := range scopes {
			in, names := slices.Clone(k.in), slices.Clone(k.names)
			e := event.Without(made(s, in...), names...)
			if !alikeEvent(e, made(s, k.want...)) {
				t.Errorf("Without(%q %#v, %q) = %#v", s, k.in, k.names, e)
			}
			for i := range e.Attrs { // its list is new memory
				e.Attrs[i] = attr("changed", whole(9))
			}
			e.Attrs = append(e.Attrs, a)
			if !slices.EqualFunc(in, k.in, alikeAttr) || !slices.Equal(names, k.names) {
				t.Errorf("Without(%#v, %q) changed what was handed in, or answered it", k.in, k.names)
			}
		}
	}
}

// TestNewMemory: what New answers shares no memory with what it was handed.
func TestNewMemory(t *testing.T) {
	l := []api.Attr{attr("a", whole(1)), attr("b", whole(2)), attr("c", whole(3))}
	e := event.New("a", l...)
	for i := range l {
		l[i] = attr("x", whole(0))
	}
	if event.Print(e) != "[a] a=1 b=2 c=3" {
		t.Errorf("changed behind its back: %s", event.Print(e))
	}
}

// many: attributes of so many names, rising.
func many(n int) []api.Attr {
	var l []api.Attr
	for i := range n {
		l = append(l, attr("n"+string(rune('a'+i)), whole(int64(i))))
	}
	return l
}

func TestRight(t *testing.T) {
	for _, e := range []api.Event{
		{}, made("a", []api.Attr{}...), made("a", many(1)...), made("a", many(7)...), made("a", many(8)...),
		made("", attr("a", num(nan))), made("", attr("a", num(other))), made("", attr("a", num(0))), made("", attr("a", num(minus))), made("", attr("a", num(inf)), attr("b", num(-inf))),
		made("", attr("a", whole(math.MinInt64)), attr("b", text("")), attr("c", text(strings.Repeat("x", 40))), attr("d", yes(false)), attr("e", yes(true))),
		made("", attr("a", whole(1)), attr("a0", whole(1)), attr("a9", whole(1)), attr("aa", whole(1)), attr("abcdefghijkl", whole(1)), attr("b", whole(1))),
		made("", attr("a", text("\xff\x00"))),
	} {
		for _, s := range scopes {
			e.Scope = s
			if !event.Right(e) {
				t.Errorf("Right(%#v)", e)
			}
		}
	}
}

func TestRightNot(t *testing.T) {
	for _, e := range []api.Event{
		made("a", many(9)...), made("a", many(20)...), made("a", make([]api.Attr, 9)...),
		made("a", attr("b", whole(1)), attr("a", whole(1))), made("a", attr("a", whole(1)), attr("a", whole(1))), made("a", attr("a", whole(1)), attr("c", whole(1)), attr("b", whole(1))),
		made("a", attr("b", whole(1)), attr("b", whole(2)), attr("c", whole(3))), made("a", attr("a", whole(1)), attr("b", whole(2)), attr("b", whole(2))), made("a", attr("aa", whole(1)), attr("a1", whole(1))),
	} {
		if event.Right(e) {
			t.Errorf("not Right(%#v)", e)
		}
	}
	for _, n := range []string{"", "A", "1a", "9", "a b", "abcdefghijklm", "\u00e4", "a-"} {
		if event.Right(made("a", attr(n, whole(1)))) || event.Right(made("a", attr(n, whole(1)), attr("zz", whole(1)))) && n < "zz" {
			t.Errorf("not Right with name %q", n)
		}
	}
	if event.Right(made("a", attr("a", whole(1)), attr("b-", whole(1)))) {
		t.Error("not Right with a second name that is none")
	}
	for _, v := range []api.Value{
		{Kind: 4}, {Kind: -1}, {Kind: math.MaxInt}, {Kind: math.MinInt}, text(strings.Repeat("x", 41)),
		{Kind: api.Int, Num: 1}, {Kind: api.Int, Num: nan}, {Kind: api.Int, Text: "x"}, {Kind: api.Int, Yes: true},
		{Kind: api.Num, Int: 1}, {Kind: api.Num, Text: "x"}, {Kind: api.Num, Yes: true}, {Kind: api.Num, Num: nan, Int: 1}, {Kind: api.Num, Num: other, Text: "x"}, {Kind: api.Num, Num: nan, Yes: true}, {Kind: api.Num, Num: minus, Int: 1},
		{Kind: api.Text, Int: 1}, {Kind: api.Text, Num: 1}, {Kind: api.Text, Num: nan}, {Kind: api.Text, Yes: true},
		{Kind: api.Bool, Int: 1}, {Kind: api.Bool, Num: 1}, {Kind: api.Bool, Num: nan}, {Kind: api.Bool, Text: "x"},
	} {
		if event.Right(made("a", attr("a", v))) || event.Right(made("a", attr("a", whole(1)), attr("b", v))) || event.Right(made("a", attr("a", v), attr("b", whole(1)))) {
			t.Errorf("not Right with %#v", v)
		}
	}
}

// TestRightOfNew: what New makes of few attributes that are Right is Right, and stands as it stood when it is made anew.
func TestRightOfNew(t *testing.T) {
	vs := values()
	for _, v := range vs {
		for _, w := range vs {
			e := event.New("a", attr("b", v), attr("a", w))
			if want := value.Right(e.Attrs[0].Value) && value.Right(e.Attrs[1].Value); event.Right(e) != want {
				t.Errorf("Right(%#v) is not %v", e, want)
			}
			if f := event.New(e.Scope, e.Attrs...); !alikeEvent(e, f) {
				t.Errorf("made anew: %#v, %#v", e, f)
			}
		}
	}
}

func TestSame(t *testing.T) {
	l := []api.Event{
		{}, made("a"), made("A"), made("a/b"), made("", attr("a", whole(1))), made("a", attr("a", whole(1))), made("a", attr("b", whole(1))), made("a", attr("", whole(1))), made("a", attr("a", whole(2))),
		made("a", attr("a", num(1))), made("a", attr("a", text("1"))), made("a", attr("a", yes(true))), made("a", attr("a", yes(false))), made("a", attr("a", num(0))), made("a", attr("a", num(nan))), made("a", attr("a", api.Value{Kind: 4})), made("a", attr("a", api.Value{Kind: 5})), made("a", attr("a", api.Value{Kind: 4, Yes: true})),
		made("a", attr("a", whole(1)), attr("b", whole(1))), made("a", attr("a", whole(1)), attr("b", whole(2))), made("a", attr("a", whole(1)), attr("c", whole(1))), made("a", attr("a", whole(1)), attr("b", whole(1)), attr("c", whole(1))),
	}
	for i, a := range l {
		for j, b := range l {
			b.Attrs = slices.Clone(b.Attrs)
			if event.Same(a, b) != (i == j) {
				t.Errorf("Same(%#v, %#v) is not %v", a, b, i == j)
			}
		}
	}
}

// TestSameValues: of values it is as value's Same says, not as they are kept.
func TestSameValues(t *testing.T) {
	for _, c := range []struct {
		a, b api.Value
		want bool
	}{
		{num(0), num(minus), true}, {num(nan), num(other), true}, {num(nan), num(0), false}, {num(inf), num(-inf), false},
		{api.Value{Kind: api.Int, Int: 1, Text: "x"}, whole(1), true}, {api.Value{Kind: api.Text, Text: "x", Num: nan}, text("x"), true}, {api.Value{Kind: api.Bool, Int: 3}, yes(false), true},
		{api.Value{Kind: 4, Int: 1}, api.Value{Kind: 4}, true}, {api.Value{Kind: 4, Yes: true}, api.Value{Kind: 4}, false}, {api.Value{Kind: 4}, api.Value{Kind: 3}, false},
	} {
		a, b := made("a", attr("a", c.a), attr("b", whole(1))), made("a", attr("a", c.b), attr("b", whole(1)))
		if event.Same(a, b) != c.want || event.Same(b, a) != c.want {
			t.Errorf("Same(%#v, %#v) is not %v", a, b, c.want)
		}
	}
	for _, v := range values() {
		for _, w := range values() {
			if event.Same(made("a", attr("a", v)), made("a", attr("a", w))) != value.Same(v, w) {
				t.Errorf("Same of %#v, %#v is not %v", v, w, value.Same(v, w))
			}
		}
	}
}

func TestPrint(t *testing.T) {
	for _, c := range []struct {
		e    api.Event
		want string
	}{
		{api.Event{}, "[]"}, {made("a"), "[a]"}, {made("a/b"), "[a/b]"}, {made("] \"\xff\n"), "[] \"\xff\n]"},
		{made("a/b", attr("price", num(3)), attr("x", text("y"))), `[a/b] price=3.0 x="y"`},
		{made("", attr("a", whole(-7))), "[] a=-7"},
		{made("a", attr("a", whole(1)), attr("b", yes(true)), attr("c", yes(false)), attr("d", num(minus)), attr("e", num(other)), attr("f", text("a \"b\"\n"))), `[a] a=1 b=yes c=no d=0.0 e=NaN f="a \"b\"\n"`},
		{made("a", attr("b", whole(1)), attr("a", whole(2)), attr("b", whole(1))), "[a] b=1 a=2 b=1"},
		{made("a", attr("", whole(1)), attr("A =\xff", whole(2)), attr("x", api.Value{Kind: 4, Int: 3, Yes: true}), attr("y", api.Value{Kind: -1})), "[a] =1 A =\xff=2 x=yes y=no"},
		{made("a", many(10)...), "[a] na=0 nb=1 nc=2 nd=3 ne=4 nf=5 ng=6 nh=7 ni=8 nj=9"},
	} {
		if s := event.Print(c.e); s != c.want {
			t.Errorf("Print(%#v) = %q", c.e, s)
		}
	}
}

// TestKeeps: no call changes what it is handed, and each answers the same again.
func TestKeeps(t *testing.T) {
	r := rand.New(rand.NewSource(2))
	vs := values()
	for range 2000 {
		e := made(scopes[r.Intn(len(scopes))])
		for range r.Intn(12) {
			e.Attrs = append(e.Attrs, attr(string(rune('a'+r.Intn(12))), vs[r.Intn(len(vs))]))
		}
		f := made(e.Scope, slices.Clone(e.Attrs)...)
		names := []string{"b", "a"}
		all := func() string {
			v, ok := event.Get(e, "c")
			return fmt.Sprint(v, ok, event.Without(e, names...), event.Right(e), event.Same(e, f), event.Print(e), event.New(e.Scope, e.Attrs...))
		}
		if s := all(); s != all() {
			t.Fatalf("not the same again of %#v", e)
		}
		if !alikeEvent(e, f) || !event.Same(e, f) || !slices.Equal(names, []string{"b", "a"}) {
			t.Fatalf("changed: %#v, was %#v", e, f)
		}
	}
}
