package redact_test

import (
	"math"
	"reflect"
	"slices"
	"strings"
	"testing"

	"gazette/api"
	"gazette/event"
	"gazette/redact"
)

func whole(n int64) api.Value { return api.Value{Kind: api.Int, Int: n} }

// hide: a rule that hides something in a scope.
func hide(tenant int, who, scope, name string) api.Rule {
	return api.Rule{Kind: api.Hide, Tenant: tenant, Who: who, Filter: api.Filter{Scope: scope}, Name: name}
}

// with: a rule of which one thing is changed.
func with(r api.Rule, change func(*api.Rule)) api.Rule {
	change(&r)
	return r
}

// ev: an event with attributes of these names, in the order in which they are told; each has a value of its own.
func ev(scope string, names ...string) api.Event {
	e := api.Event{Scope: scope}
	for i, n := range names {
		e.Attrs = append(e.Attrs, api.Attr{Name: n, Value: whole(int64(i + 1))})
	}
	return e
}

// names: of an event's attributes, with blanks between.
func names(e api.Event) string {
	var l []string
	for _, a := range e.Attrs {
		l = append(l, a.Name)
	}
	return strings.Join(l, " ")
}

// huge: numbers far out.
var huge = []int{-1, -2, 4, 5, 256, 1 << 32, 1<<32 + 1, math.MaxInt, math.MinInt}

// asked: does Hidden answer so? want has blanks between.
func asked(t *testing.T, l []api.Rule, tenant int, who, in, want string) {
	t.Helper()
	if got := redact.Hidden(l, tenant, who, in); !slices.Equal(got, strings.Fields(want)) {
		t.Errorf("Hidden(%+v, %v, %q, %q) = %q, not %q", l, tenant, who, in, got, want)
	}
}

// some: rules of three principals; not all of them hide something.
func some() []api.Rule {
	return []api.Rule{
		{Kind: api.Join, Tenant: 1, Who: "p", Broker: 2},
		hide(1, "p", "a", "x"),
		hide(1, "p", "a/b", "k"),
		hide(1, "q", "", "z"),
		hide(2, "p", "a", "u"),
		hide(1, "p", "a/b", "x"), // once more, further below
		hide(1, "p", "c", "b2"),
		hide(1, "p", "", "m"),
		hide(1, "p", "c", "b"),
		hide(1, "p", "c", "b10"),
		hide(1, "p", "a/b/c/d", "a"),
		{Kind: api.Publish, Tenant: 1, Who: "p", Name: "n1"},
		{Kind: api.Observe, Tenant: 1, Who: "p", Name: "n2"},
		{Kind: api.Revoke, Tenant: 1, Who: "p", Name: "n3", At: 1},
		{Kind: api.Join, Tenant: 1, Who: "p", Name: "n4"},
	}
}

func TestHidden(t *testing.T) {
	for _, c := range []struct {
		tenant int
		who    string
		in     string
		want   string
	}{
		{1, "p", "", "m"}, // what is hidden below isn't hidden above
		{1, "p", "a", "m x"},
		{1, "p", "a/b", "k m x"}, // x by two rules, once
		{1, "p", "a/b/c", "k m x"},
		{1, "p", "a/b/c/d", "a k m x"},
		{1, "p", "a/c", "m x"},
		{1, "p", "a/bb", "m x"}, // beside a/b, not below it
		{1, "p", "ab", "m"},
		{1, "p", "ab/b", "m"},
		{1, "p", "b", "m"},
		{1, "p", "b/a", "m"},
		{1, "p", "c", "b b10 b2 m"}, // rising by bytes
		{1, "p", "c/a/b", "b b10 b2 m"},
		{1, "q", "", "z"},
		{1, "q", "a/b", "z"},
		{2, "p", "a", "u"},
		{2, "p", "a/b", "u"},
		{2, "p", "", ""},
		{2, "q", "a", ""},
		{0, "p", "a", ""},
		{3, "p", "a", ""},
		{-1, "p", "a", ""},
		{1, "", "a", ""},
		{1, "P", "a", ""},
		{1, "pp", "a", ""},
		{1<<32 + 1, "p", "a", ""},
	} {
		asked(t, some(), c.tenant, c.who, c.in, c.want)
	}
	asked(t, nil, 0, "", "", "")
	asked(t, []api.Rule{}, 1, "p", "a", "")
}

// TestHiddenAsksForAKind: no rule of another kind hides anything.
func TestHiddenAsksForAKind(t *testing.T) {
	r := hide(0, "p", "", "x")
	asked(t, []api.Rule{r}, 0, "p", "a", "x")
	for _, kind := range append([]int{api.Join, api.Publish, api.Observe, api.Revoke}, huge...) {
		asked(t, []api.Rule{with(r, func(r *api.Rule) { r.Kind = kind })}, 0, "p", "a", "")
	}
}

// TestHiddenAsksForAPrincipal: of that tenant, and of that name, whatever these are.
func TestHiddenAsksForAPrincipal(t *testing.T) {
	tenants := append([]int{0, 1, 2, 3}, huge...)
	people := []string{"", "p", "P", "pp", "p ", "q", "abcdefghijkl", "\x00", "\xff"}
	for _, a := range tenants {
		for _, p := range people {
			l := []api.Rule{hide(a, p, "a", "x")}
			for _, b := range tenants {
				for _, q := range people {
					want := ""
					if a == b && p == q {
						want = "x"
					}
					asked(t, l, b, q, "a", want)
				}
			}
		}
	}
}

// scopes that may be.
var scopes = []string{"", "a", "b", "ab", "a0", "a/a", "a/b", "a/ab", "ab/b", "b/a", "a/b/a", "a/b/c", "a/b/c/d", "a/b/c/dd", "b/b/c/d", "abcdefghijkl/abcdefghijkl"}

// below: is a scope another one, or below it? By their names, one by one.
func below(s, top string) bool {
	if top == "" {
		return true
	}
	l, m := strings.Split(s, "/"), strings.Split(top, "/")
	return len(l) >= len(m) && slices.Equal(l[:len(m)], m)
}

// TestHiddenAsksForAScope: the scope is the rule's, or below it, over all pairs.
func TestHiddenAsksForAScope(t *testing.T) {
	for _, top := range scopes {
		for _, in := range scopes {
			want := ""
			if below(in, top) {
				want = "x"
			}
			asked(t, []api.Rule{hide(0, "p", top, "x")}, 0, "p", in, want)
			if got := names(redact.Event([]api.Rule{hide(0, "p", top, "x")}, 0, "p", ev(in, "x"))); (got == "") != (want == "x") {
				t.Errorf("Event in %q, x hidden in %q: %q", in, top, got)
			}
		}
	}
}

// TestHiddenDoesNotAskForTheRest: a Hide's conditions, broker and place play no part, nor whether the principal is there.
func TestHiddenDoesNotAskForTheRest(t *testing.T) {
	conds := [][]api.Cond{nil, {{Name: "x", Op: api.Eq, Value: whole(9)}}, {{Name: "y", Op: api.Has}}, {{Name: "x", Op: api.Lt, Value: api.Value{Kind: api.Num, Num: math.NaN()}}}, {{Name: "X", Op: 9}}, make([]api.Cond, 50)}
	for _, l := range conds {
		for _, n := range append([]int{0, 1, 39}, huge...) {
			r := hide(0, "p", "a", "x")
			r.Broker, r.At, r.Filter.Conds = n, n, l
			for _, rules := range [][]api.Rule{{r}, {{Kind: api.Join, Who: "p"}, r}, {r, {Kind: api.Join, Who: "p"}}, {r, {Kind: api.Revoke, At: 0}}} {
				asked(t, rules, 0, "p", "a/b", "x")
				if s := event.Print(redact.Event(rules, 0, "p", ev("a/b", "w", "x", "y"))); s != "[a/b] w=1 y=3" {
					t.Errorf("Event by %+v: %v", rules, s)
				}
			}
		}
	}
}

// TestHiddenRisesEachOnce: all orders of some names, each told once or twice, in one scope or in several.
func TestHiddenRisesEachOnce(t *testing.T) {
	rising := []string{"a", "a0", "a9", "aa", "b"}
	var all func(have []string)
	all = func(have []string) {
		if len(have) == len(rising) {
			var l []api.Rule
			for i, n := range have {
				l = append(l, hide(0, "p", scopes[i%3*6], n)) // the empty one, a/b, a/b/c/d
			}
			asked(t, l, 0, "p", "a/b/c/d", "a a0 a9 aa b")
			asked(t, append(l, l...), 0, "p", "a/b/c/d", "a a0 a9 aa b")
			asked(t, append(l, l[2], l[2], hide(0, "p", "a", have[4])), 0, "p", "a/b/c/d", "a a0 a9 aa b")
			return
		}
		for _, n := range rising {
			if !slices.Contains(have, n) {
				all(append(slices.Clone(have), n))
			}
		}
	}
	all(nil)
}

// TestHiddenOfNamesThatAreNone: they stand as they are, rising by bytes.
func TestHiddenOfNamesThatAreNone(t *testing.T) {
	l := []api.Rule{hide(0, "p", "", "\xff"), hide(0, "p", "", "é"), hide(0, "p", "", "x"), hide(0, "p", "", ""), hide(0, "p", "", "X"), hide(0, "p", "", "\x00"), hide(0, "p", "", "")}
	if got := redact.Hidden(l, 0, "p", "a"); !slices.Equal(got, []string{"", "\x00", "X", "x", "é", "\xff"}) {
		t.Errorf("%q", got)
	}
	if got := names(redact.Event(l, 0, "p", ev("", "", "X", "a", "x", "xx", "é", "\xfe", "\xff"))); got != "a xx \xfe" {
		t.Errorf("%q", got)
	}
}

func TestEvent(t *testing.T) {
	for _, c := range []struct {
		tenant int
		who    string
		e      api.Event
		want   string
	}{
		{1, "p", ev("a", "k", "m", "x", "z"), "[a] k=1 z=4"},
		{1, "p", ev("a/b", "k", "m", "x", "z"), "[a/b] z=4"},
		{1, "p", ev("", "k", "m", "x", "z"), "[] k=1 x=3 z=4"},
		{1, "p", ev("ab", "k", "m", "x", "z"), "[ab] k=1 x=3 z=4"},
		{1, "p", ev("c", "b", "b1", "b10", "b100", "b2", "b3", "bb"), "[c] b1=2 b100=4 b3=6 bb=7"},
		{1, "p", ev("a/b", "k", "m", "x"), "[a/b]"}, // nothing is left of it, but it is there
		{1, "p", ev("a/b"), "[a/b]"},
		{1, "p", ev("a/b/c/d", "a", "b", "c"), "[a/b/c/d] b=2 c=3"},
		{1, "p", ev("a", "n1", "n2", "n3", "n4"), "[a] n1=1 n2=2 n3=3 n4=4"}, // told by rules that hide nothing
		{1, "q", ev("a/b", "k", "m", "x", "z"), "[a/b] k=1 m=2 x=3"},
		{2, "p", ev("a/b", "k", "m", "u", "x"), "[a/b] k=1 m=2 x=4"},
		{2, "q", ev("a/b", "k", "u", "z"), "[a/b] k=1 u=2 z=3"},
		{0, "p", ev("a/b", "k", "m", "x"), "[a/b] k=1 m=2 x=3"},
		{1, "", ev("a/b", "k", "m", "x"), "[a/b] k=1 m=2 x=3"},
		{1, "p", ev("a", "x", "x", "m", "x", "k", "k"), "[a] k=5 k=6"}, // of names that don't rise, all of them
	} {
		if got := event.Print(redact.Event(some(), c.tenant, c.who, c.e)); got != c.want {
			t.Errorf("Event of %v for %v of %v: %v, not %v", event.Print(c.e), c.who, c.tenant, got, c.want)
		}
		if got := redact.Event(nil, c.tenant, c.who, c.e); !event.Same(got, c.e) {
			t.Errorf("without rules: %+v", got)
		}
	}
}

// TestEventLeavesValuesAsTheyAre: of each kind, whatever they are.
func TestEventLeavesValuesAsTheyAre(t *testing.T) {
	nan := math.Float64frombits(0x7ff8000000000abc)
	values := []api.Value{whole(-7), {Kind: api.Num, Num: math.Copysign(0, -1)}, {Kind: api.Num, Num: nan}, {Kind: api.Text, Text: strings.Repeat("a", 99)}, {Kind: api.Bool, Yes: true}, {Kind: 9, Int: 1, Num: 2, Text: "t", Yes: true}, {Kind: -1}}
	l := []api.Rule{hide(0, "p", "a", "h")}
	for _, v := range values {
		e := api.Event{Scope: "a/b", Attrs: []api.Attr{{Name: "g", Value: v}, {Name: "h", Value: v}, {Name: "i", Value: v}}}
		got := redact.Event(l, 0, "p", e)
		if got.Scope != "a/b" || names(got) != "g i" {
			t.Fatalf("%+v", got)
		}
		for _, a := range got.Attrs {
			bits := math.Float64bits(a.Value.Num)
			a.Value.Num = 0
			w := v
			w.Num = 0
			if bits != math.Float64bits(v.Num) || a.Value != w {
				t.Errorf("%+v became %+v", v, a.Value)
			}
		}
	}
}

// TestOfAll: all lists of up to three rules, held against the words in another form.
func TestOfAll(t *testing.T) {
	l := []api.Rule{
		hide(0, "p", "", "x"), hide(0, "p", "a", "x"), hide(0, "p", "a/b", "y"), hide(0, "p", "b", "y"), hide(0, "p", "a", "w"),
		hide(1, "p", "", "y"), hide(0, "q", "", "z"), hide(1, "q", "a", "x"),
		{Kind: api.Join, Who: "p", Name: "x"}, {Kind: api.Observe, Who: "p", Name: "y"}, {Kind: api.Revoke, Who: "p", Name: "z", At: 0},
	}
	check := func(rules ...api.Rule) {
		for tenant := range 2 {
			for _, who := range []string{"p", "q"} {
				for _, in := range []string{"", "a", "a/b/c", "ab", "b"} {
					var want, left []string
					for _, n := range []string{"w", "x", "y", "z"} {
						if slices.ContainsFunc(rules, func(r api.Rule) bool {
							return r.Name == n && below(in, r.Filter.Scope) && r.Kind == 3 && r.Tenant == tenant && r.Who == who
						}) {
							want = append(want, n)
						} else {
							left = append(left, n)
						}
					}
					asked(t, rules, tenant, who, in, strings.Join(want, " "))
					got := redact.Event(rules, tenant, who, ev(in, "w", "x", "y", "z"))
					if names(got) != strings.Join(left, " ") || got.Scope != in {
						t.Fatalf("Event by %+v for %v of %v in %q: %+v", rules, who, tenant, in, got)
					}
				}
			}
		}
	}
	check()
	for _, a := range l {
		check(a)
		for _, b := range l {
			check(a, b)
			for _, c := range l {
				check(a, b, c)
			}
		}
	}
}

// TestLongLists: the rule that hides is found at each place, and all of many are.
func TestLongLists(t *testing.T) {
	for n := 1; n <= 3*api.MaxRules; n += 7 {
		var all []string
		many := make([]api.Rule, n)
		for i := range many {
			name := "n" + strings.Repeat("a", i)
			all = append(all, name)
			many[n-1-i] = hide(0, "p", "a", name)
		}
		asked(t, many, 0, "p", "a", strings.Join(all, " "))
		if got := redact.Event(many, 0, "p", ev("a", append(all, "m", "o")...)); names(got) != "m o" {
			t.Fatal(n, names(got))
		}
		for at := range n {
			l := make([]api.Rule, n)
			for i := range l {
				l[i] = hide(0, "q", "", "y")
			}
			l[at] = hide(0, "p", "a", "x")
			asked(t, l, 0, "p", "a", "x")
			asked(t, l, 0, "p", "b", "")
		}
	}
}

// TestWhatIsHandedInIsNotChanged: nor is it kept, and nothing of it is handed out.
func TestWhatIsHandedInIsNotChanged(t *testing.T) {
	// Room behind the lists, for what is put there would be seen as well.
	made := func() ([]api.Rule, api.Event) {
		l := append(make([]api.Rule, 0, 40), some()...)
		e := ev("a/b", "x", "b", "k", "m", "a", "x")
		e.Attrs = append(make([]api.Attr, 0, 20), e.Attrs...)
		return l, e
	}
	l, e := made()
	m, d := made()
	for tenant := -1; tenant <= 3; tenant++ {
		for _, who := range []string{"", "p", "q", "P"} {
			for _, in := range scopes {
				for i, h := 0, redact.Hidden(l, tenant, who, in); i < len(h); i++ {
					h[i] = "changed"
				}
				e.Scope = in
				got := redact.Event(l, tenant, who, e)
				for i := range got.Attrs {
					got.Attrs[i] = api.Attr{Name: "changed"}
				}
				_ = append(got.Attrs, api.Attr{Name: "changed"})
			}
		}
	}
	d.Scope = e.Scope
	if !reflect.DeepEqual(l[:cap(l)], m[:cap(m)]) || !reflect.DeepEqual(e.Attrs[:cap(e.Attrs)], d.Attrs[:cap(d.Attrs)]) || e.Scope != d.Scope {
		t.Error("something was changed")
	}
	asked(t, l, 1, "p", "a/b", "k m x")
}

// TestNothingIsKept: an answer hangs on what is handed in, not on what was asked before, and stays as it was answered.
func TestNothingIsKept(t *testing.T) {
	l := []api.Rule{hide(0, "p", "a", "x"), hide(0, "p", "a", "k")}
	e := ev("a", "k", "x", "y")
	first, seen := redact.Hidden(l, 0, "p", "a"), redact.Event(l, 0, "p", e)
	for range 2 {
		asked(t, l, 0, "p", "a", "k x")
		l[0].Name, l[1].Filter.Scope, e.Attrs[2].Name = "y", "b", "z"
		asked(t, l, 0, "p", "a", "y")
		if got := event.Print(redact.Event(l, 0, "p", e)); got != "[a] k=1 x=2 z=3" {
			t.Fatal(got)
		}
		l[0].Name, l[1].Filter.Scope, e.Attrs[2].Name = "x", "a", "y"
	}
	e.Attrs[2].Name = "z"
	if !slices.Equal(first, []string{"k", "x"}) || event.Print(seen) != "[a] y=3" {
		t.Error(first, seen)
	}
}

// TestOfAnything: none panics, whatever it is given; scopes that are none go by the same words.
func TestOfAnything(t *testing.T) {
	texts := []string{"", "/", "a/", "/a", "a//b", "A", " ", "a:b", "a/b/c/d/e", "\x00", "\xff", "é", strings.Repeat("a/", 1000)}
	for i, s := range texts {
		for _, in := range texts {
			for kind := -1; kind <= 5; kind++ {
				r := api.Rule{Kind: kind, Tenant: huge[i%len(huge)], Who: s, Broker: -1, Filter: api.Filter{Scope: s, Conds: make([]api.Cond, i)}, Name: s, At: -1}
				l := []api.Rule{r, {}, r}
				e := api.Event{Scope: in, Attrs: []api.Attr{{Name: "b"}, {Name: s, Value: api.Value{Kind: 9}}, {Name: s}, {}}}
				got := redact.Hidden(l, r.Tenant, s, in)
				if hides := kind == api.Hide && (s == "" || in == s || strings.HasPrefix(in, s+"/")); hides != (len(got) == 1 && got[0] == s) || !hides && len(got) != 0 {
					t.Errorf("Hidden(%+v, in %q) = %q", l, in, got)
				}
				redact.Event(l, r.Tenant, s, e)
				redact.Event(l, r.Tenant, s, api.Event{Scope: in})
			}
		}
	}
}
