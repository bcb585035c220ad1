package acl_test

import (
	"math"
	"reflect"
	"strings"
	"testing"

	"gazette/acl"
	"gazette/api"
	"gazette/filter"
)

var nan = math.NaN()

func whole(n int64) api.Value { return api.Value{Kind: api.Int, Int: n} }

// x: a condition of x, of a whole number.
func x(op int, n int64) api.Cond { return api.Cond{Name: "x", Op: op, Value: whole(n)} }

// void: a condition that no value does.
func void(name string) api.Cond {
	return api.Cond{Name: name, Op: api.Lt, Value: api.Value{Kind: api.Num, Num: nan}}
}

// in: a filter.
func in(scope string, l ...api.Cond) api.Filter { return api.Filter{Scope: scope, Conds: l} }

// ev: an event with an x, if it is handed one.
func ev(scope string, l ...int64) api.Event {
	e := api.Event{Scope: scope}
	for _, n := range l {
		e.Attrs = append(e.Attrs, api.Attr{Name: "x", Value: whole(n)})
	}
	return e
}

func join(tenant int, who string, broker int) api.Rule {
	return api.Rule{Kind: api.Join, Tenant: tenant, Who: who, Broker: broker}
}

func publish(tenant int, who string, f api.Filter) api.Rule {
	return api.Rule{Kind: api.Publish, Tenant: tenant, Who: who, Filter: f}
}

func observe(tenant int, who string, f api.Filter) api.Rule {
	return api.Rule{Kind: api.Observe, Tenant: tenant, Who: who, Filter: f}
}

func hide(tenant int, who, scope, name string) api.Rule {
	return api.Rule{Kind: api.Hide, Tenant: tenant, Who: who, Filter: in(scope), Name: name}
}

func revoke(at int) api.Rule { return api.Rule{Kind: api.Revoke, At: at} }

// kinds of rules that are of a principal.
var kinds = []int{api.Join, api.Publish, api.Observe, api.Hide}

// plain: a rule of a kind of which nothing is wrong.
func plain(kind int) api.Rule {
	switch kind {
	case api.Join:
		return join(1, "p", 3)
	case api.Publish:
		return publish(1, "p", in("a", x(api.Gt, 3)))
	case api.Observe:
		return observe(1, "p", in("a/b", x(api.Gt, 3)))
	case api.Hide:
		return hide(1, "p", "a", "x")
	}
	return revoke(2)
}

// huge: numbers far out.
var huge = []int{-1, -2, 1000, -1000, 256, 1 << 32, -1 << 32, 1<<32 + 1, math.MaxInt, math.MinInt}

// rightNames and wrongNames: texts that are names, and such as aren't.
var (
	rightNames = []string{"p", "a", "z", "p0", "p9", "has", "abcdefghijkl", "a12345678901"}
	wrongNames = []string{"", "P", "1", "9p", "pQ", "p q", " p", "p ", "p/q", "p.q", "p-q", "p_q", "é", "pé", "\x00", "p\x00", "p\xff", "abcdefghijklm", strings.Repeat("a", 1000)}
)

// rightScopes and wrongScopes: texts that are scopes, and such as aren't.
var (
	rightScopes = []string{"", "a", "a/b", "ab/c1/d", "a/b/c/d", "abcdefghijkl/abcdefghijkl/abcdefghijkl/abcdefghijkl"}
	wrongScopes = []string{"/", "a/", "/a", "a//b", "A", "1", "a b", " ", "a:b", "a/b/c/d/e", "abcdefghijklm", "a/abcdefghijklm", "\x00", "\xff"}
)

// rightConds and wrongConds: lists of conditions that may be, and such as may not.
func rightConds() [][]api.Cond {
	return [][]api.Cond{nil, {}, {x(api.Eq, 3)}, {x(api.Lt, 3), x(api.Gt, 5)}, {void("x")}, {{Name: "x", Op: api.Has}}, make6(x(api.Ne, 1))}
}

func wrongConds() [][]api.Cond {
	return [][]api.Cond{
		append(make6(x(api.Ne, 1)), x(api.Ne, 1)),
		{{Name: "", Op: api.Has}}, {{Name: "X", Op: api.Has}}, {{Name: "x", Op: 8}}, {{Name: "x", Op: -1}}, {x(api.Eq, 1), {Name: "abcdefghijklm", Op: api.Eq}},
		{{Name: "x", Op: api.Eq, Value: api.Value{Kind: 4}}}, {{Name: "x", Op: api.Eq, Value: api.Value{Kind: -1}}},
		{{Name: "x", Op: api.Eq, Value: api.Value{Kind: api.Text, Text: strings.Repeat("a", api.MaxText+1)}}},
	}
}

// make6: as many of a condition as a filter may have.
func make6(c api.Cond) []api.Cond {
	l := make([]api.Cond, api.MaxConds)
	for i := range l {
		l[i] = c
	}
	return l
}

// with: a rule of which one thing is changed.
func with(r api.Rule, change func(*api.Rule)) api.Rule {
	change(&r)
	return r
}

// asked: does Right answer so?
func asked(t *testing.T, r api.Rule, want bool) {
	t.Helper()
	if got := acl.Right(r); got != want {
		t.Errorf("Right(%+v) = %v", r, got)
	}
}

func TestRightOfPlainRules(t *testing.T) {
	for kind := api.Join; kind <= api.Revoke; kind++ {
		asked(t, plain(kind), true)
	}
	asked(t, api.Rule{}, false) // a Join of nobody
	asked(t, api.Rule{Who: "p"}, true)
	asked(t, api.Rule{Kind: api.Revoke}, true)
}

func TestRightAsksForAKind(t *testing.T) {
	for _, kind := range append([]int{5, 6, 7}, huge...) {
		for k := api.Join; k <= api.Revoke; k++ {
			asked(t, with(plain(k), func(r *api.Rule) { r.Kind = kind }), false)
		}
		all := api.Rule{Kind: kind, Tenant: 1, Who: "p", Broker: 1, Filter: in("a"), Name: "x", At: 1}
		asked(t, all, false)
	}
}

func TestRightAsksForATenant(t *testing.T) {
	for _, kind := range kinds {
		for tenant := range api.MaxTenants {
			asked(t, with(plain(kind), func(r *api.Rule) { r.Tenant = tenant }), true)
		}
		for _, tenant := range append([]int{4, 5}, huge...) {
			asked(t, with(plain(kind), func(r *api.Rule) { r.Tenant = tenant }), false)
		}
	}
}

func TestRightAsksForAPrincipal(t *testing.T) {
	for _, kind := range kinds {
		for _, who := range rightNames {
			asked(t, with(plain(kind), func(r *api.Rule) { r.Who = who }), true)
		}
		for _, who := range wrongNames {
			asked(t, with(plain(kind), func(r *api.Rule) { r.Who = who }), false)
		}
		for b := range 256 {
			letter := b >= 'a' && b <= 'z'
			digit := b >= '0' && b <= '9'
			one := string([]byte{byte(b)})
			asked(t, with(plain(kind), func(r *api.Rule) { r.Who = one }), letter)
			asked(t, with(plain(kind), func(r *api.Rule) { r.Who = "p" + one }), letter || digit)
		}
	}
}

func TestRightOfAJoinAsksForABroker(t *testing.T) {
	for b := range api.MaxBrokers {
		asked(t, join(1, "p", b), true)
	}
	for _, b := range append([]int{6, 7}, huge...) {
		asked(t, join(1, "p", b), false)
	}
}

func TestRightOfPublishAndObserveAsksForAFilter(t *testing.T) {
	for _, kind := range []int{api.Publish, api.Observe} {
		for _, l := range rightConds() {
			for _, s := range rightScopes {
				asked(t, with(plain(kind), func(r *api.Rule) { r.Filter = in(s, l...) }), true)
			}
			for _, s := range wrongScopes {
				asked(t, with(plain(kind), func(r *api.Rule) { r.Filter = in(s, l...) }), false)
			}
		}
		for _, l := range wrongConds() {
			for _, s := range append(wrongScopes, rightScopes...) {
				asked(t, with(plain(kind), func(r *api.Rule) { r.Filter = in(s, l...) }), false)
			}
		}
	}
}

func TestRightOfAHideAsksForANameAndAScope(t *testing.T) {
	for _, s := range rightNames {
		asked(t, hide(1, "p", "a", s), true)
	}
	for _, s := range wrongNames {
		asked(t, hide(1, "p", "a", s), false)
	}
	for _, l := range append(wrongConds(), rightConds()...) { // it is the scope alone that is asked for
		for _, s := range rightScopes {
			asked(t, with(hide(1, "p", s, "x"), func(r *api.Rule) { r.Filter.Conds = l }), true)
		}
		for _, s := range wrongScopes {
			asked(t, with(hide(1, "p", s, "x"), func(r *api.Rule) { r.Filter.Conds = l }), false)
		}
	}
}

func TestRightOfARevokeAsksForAPlace(t *testing.T) {
	for _, at := range []int{0, 1, api.MaxRules - 1, api.MaxRules, api.MaxRules + 1, 1 << 32, math.MaxInt} {
		asked(t, revoke(at), true)
	}
	for _, at := range []int{-1, -2, -40, -1 << 32, math.MinInt} {
		asked(t, revoke(at), false)
	}
}

// TestRightOfWhatAKindDoesNotSpeakOf: it may be anything.
func TestRightOfWhatAKindDoesNotSpeakOf(t *testing.T) {
	wrong := append(wrongConds(), nil)
	for _, n := range huge {
		for i, l := range wrong {
			f := in(wrongScopes[i], l...)
			s := wrongNames[i]
			asked(t, api.Rule{Kind: api.Join, Tenant: 3, Who: "p", Broker: 5, Filter: f, Name: s, At: n}, true)
			asked(t, api.Rule{Kind: api.Publish, Tenant: 3, Who: "p", Broker: n, Filter: in("a"), Name: s, At: n}, true)
			asked(t, api.Rule{Kind: api.Observe, Tenant: 3, Who: "p", Broker: n, Filter: in("a"), Name: s, At: n}, true)
			asked(t, api.Rule{Kind: api.Hide, Tenant: 3, Who: "p", Broker: n, Filter: in("a", l...), Name: "x", At: n}, true)
			asked(t, api.Rule{Kind: api.Revoke, Tenant: n, Who: s, Broker: n, Filter: f, Name: s, At: 7}, true)
		}
	}
}

// right: what Right says, once more: a list of what may be wrong, of which each kind asks some.
func right(r api.Rule) bool {
	tenant := 1 << 0
	who := 1 << 1
	broker := 1 << 2
	whole := 1 << 3
	top := 1 << 4
	name := 1 << 5
	at := 1 << 6
	asks := map[int]int{
		api.Join:    tenant | who | broker,
		api.Publish: tenant | who | whole,
		api.Observe: tenant | who | whole,
		api.Hide:    tenant | who | top | name,
		api.Revoke:  at,
	}
	set, known := asks[r.Kind]
	wrong := 0
	for bit, bad := range map[int]bool{
		tenant: r.Tenant < 0 || r.Tenant > 3,
		who:    !isName(r.Who),
		broker: r.Broker < 0 || r.Broker > 5,
		whole:  !filter.Right(r.Filter),
		top:    !isScope(r.Filter.Scope),
		name:   !isName(r.Name),
		at:     r.At < 0,
	} {
		if bad {
			wrong |= bit
		}
	}
	return known && set&wrong == 0
}

func isName(s string) bool {
	return len(s) >= 1 && len(s) <= 12 && strings.Trim(s, "abcdefghijklmnopqrstuvwxyz0123456789") == "" && strings.IndexAny(s, "0123456789") != 0
}

func isScope(s string) bool {
	if s == "" {
		return true
	}
	l := strings.Split(s, "/")
	for _, n := range l {
		if !isName(n) {
			return false
		}
	}
	return len(l) <= 4
}

// TestRightOfAll: rules of many kinds of wrong at once.
func TestRightOfAll(t *testing.T) {
	filters := []api.Filter{{}, in("a/b", x(api.Lt, 1)), in("/"), in("a", api.Cond{Name: "X"}), in("A", x(api.Lt, 1)), in("", append(make6(x(api.Ge, 2)), x(api.Ge, 2))...)}
	for kind := -1; kind <= 6; kind++ {
		for _, tenant := range []int{-1, 0, 3, 4} {
			for _, who := range []string{"", "p", "P", "abcdefghijkl", "abcdefghijklm"} {
				for _, broker := range []int{-1, 0, 5, 6} {
					for _, f := range filters {
						for _, name := range []string{"", "x", "X"} {
							for _, at := range []int{-1, 0, 50} {
								r := api.Rule{Kind: kind, Tenant: tenant, Who: who, Broker: broker, Filter: f, Name: name, At: at}
								asked(t, r, right(r))
							}
						}
					}
				}
			}
		}
	}
}

func TestHome(t *testing.T) {
	l := []api.Rule{
		join(1, "p", 3),
		join(0, "p", 2),
		publish(2, "p", in("")),
		join(1, "q", 0),
		join(1, "p", 5),
		join(0, "q", 4),
		observe(1, "p", in("")),
		hide(1, "p", "", "x"),
		revoke(4),
		with(publish(1, "p", in("")), func(r *api.Rule) { r.Broker = 1 }),
		with(revoke(0), func(r *api.Rule) { r.Tenant, r.Who, r.Broker = 1, "p", 1 }),
	}
	for _, c := range []struct {
		rules  int
		tenant int
		who    string
		at     int
		ok     bool
	}{
		{0, 1, "p", 0, false},
		{1, 1, "p", 3, true},
		{1, 0, "p", 0, false},
		{2, 0, "p", 2, true},
		{2, 1, "p", 3, true},
		{3, 2, "p", 0, false}, // no other rule joins it
		{4, 1, "q", 0, true},
		{4, 1, "p", 3, true},
		{5, 1, "p", 5, true}, // the last one counts
		{5, 0, "p", 2, true},
		{11, 1, "p", 5, true}, // what isn't a Join tells nothing, and a revocation is for whoever made the list
		{11, 0, "q", 4, true},
		{11, 1, "q", 0, true},
		{11, 0, "p", 2, true},
		{11, 3, "p", 0, false},
		{11, 1, "", 0, false},
		{11, 1, "P", 0, false},
		{11, 1, "pp", 0, false},
		{11, -1, "p", 0, false},
		{11, 4, "p", 0, false},
		{11, 1<<32 + 1, "p", 0, false},
	} {
		if at, ok := acl.Home(l[:c.rules], c.tenant, c.who); at != c.at || ok != c.ok {
			t.Errorf("Home of %+v: %v %v", c, at, ok)
		}
	}
	if at, ok := acl.Home(nil, 0, ""); at != 0 || ok {
		t.Error("there is a home of nobody")
	}
}

func TestWithoutAJoinNobodyMayDoAnything(t *testing.T) {
	l := []api.Rule{publish(1, "p", in("")), observe(1, "p", in("")), hide(1, "p", "", "x"), revoke(0), join(0, "p", 1), join(1, "q", 1)}
	if acl.MayPublish(l, 1, "p", ev("a")) || acl.MayObserve(l, 1, "p", in("a")) {
		t.Error("it isn't there")
	}
	l = append(l, join(1, "p", 1)) // a Join behind the rules does as well
	if !acl.MayPublish(l, 1, "p", ev("a")) || !acl.MayObserve(l, 1, "p", in("a")) {
		t.Error("it is there")
	}
	if acl.MayPublish(nil, 1, "p", ev("a")) || acl.MayObserve(nil, 1, "p", in("a", void("x"))) {
		t.Error("of no rules")
	}
	if acl.MayPublish(l[5:], 1, "q", ev("")) || acl.MayObserve(l[5:], 1, "q", in("", void("x"))) {
		t.Error("a Join alone allows nothing")
	}
}

func TestMayPublish(t *testing.T) {
	l := []api.Rule{
		join(1, "p", 3), join(1, "q", 3), join(2, "p", 3),
		publish(1, "p", in("a", x(api.Gt, 3))),
		publish(1, "p", in("a/b", x(api.Lt, 0), x(api.Ne, -5))),
		publish(1, "p", in("", void("x"))),
		observe(1, "p", in("")),
		publish(2, "p", in("c")),
		observe(1, "q", in("")),
		hide(1, "q", "", "x"),
	}
	for _, c := range []struct {
		tenant int
		who    string
		e      api.Event
		want   bool
	}{
		{1, "p", ev("a", 4), true},
		{1, "p", ev("a", 3), false},
		{1, "p", ev("a/c/d", 4), true},
		{1, "p", ev("ab", 4), false},
		{1, "p", ev("", 4), false},
		{1, "p", ev("a"), false}, // it has no x
		{1, "p", ev("a", -1), false},
		{1, "p", ev("a/b", -1), true}, // one that matches does, wherever it stands
		{1, "p", ev("a/b", -5), false},
		{1, "p", ev("a/b", 4), true},
		{1, "p", ev("a/b", 0), false},
		{1, "p", ev("c"), false}, // of another tenant
		{2, "p", ev("c"), true},
		{2, "p", ev("a", 4), false},
		{1, "q", ev("a", 4), false}, // it may observe alone
		{1, "r", ev("a", 4), false},
		{0, "p", ev("a", 4), false},
		{-1, "p", ev("a", 4), false},
		{1, "", ev("a", 4), false},
	} {
		if got := acl.MayPublish(l, c.tenant, c.who, c.e); got != c.want {
			t.Errorf("MayPublish %+v: %v", c, got)
		}
	}
}

func TestMayObserve(t *testing.T) {
	l := []api.Rule{
		join(1, "p", 3), join(1, "q", 3), join(2, "p", 3),
		observe(1, "p", in("a", x(api.Gt, 3))),
		observe(1, "p", in("a/b", x(api.Le, 3))),
		publish(1, "p", in("")),
		observe(2, "p", in("c")),
		publish(1, "q", in("")),
		hide(1, "q", "", "x"),
	}
	for _, c := range []struct {
		tenant int
		who    string
		f      api.Filter
		want   bool
	}{
		{1, "p", in("a", x(api.Gt, 3)), true},
		{1, "p", in("a", x(api.Gt, 5)), true},
		{1, "p", in("a", x(api.Ge, 3)), false},
		{1, "p", in("a", x(api.Eq, 4)), true},
		{1, "p", in("a", x(api.Eq, 3)), false},
		{1, "p", in("a"), false},
		{1, "p", in("", x(api.Gt, 5)), false}, // it has more than the rule
		{1, "p", in("a/c", x(api.Gt, 5)), true},
		{1, "p", in("a/b", x(api.Eq, 3)), true},
		{1, "p", in("a/b"), false}, // the two together aren't one that covers it
		{1, "p", in("a/b", api.Cond{Name: "x", Op: api.Has}), false},
		{1, "p", in("a/b/c", x(api.Lt, 0), x(api.Ne, -1)), true},
		{1, "p", in("b", void("y")), true}, // what has no events is covered by any rule
		{1, "p", in("c"), false},           // of another tenant
		{2, "p", in("c/d"), true},
		{2, "p", in("a", x(api.Gt, 3)), false},
		{1, "q", in("a"), false}, // it may publish alone
		{1, "q", in("a", void("x")), false},
		{1, "r", in("a", x(api.Gt, 3)), false},
		{0, "p", in("a", x(api.Gt, 3)), false},
		{5, "p", in("a", x(api.Gt, 3)), false},
		{1, "", in("a", x(api.Gt, 3)), false},
	} {
		if got := acl.MayObserve(l, c.tenant, c.who, c.f); got != c.want {
			t.Errorf("MayObserve %+v: %v", c, got)
		}
	}
}

// few: rules of two principals of two tenants, right ones and some that aren't.
func few() []api.Rule {
	return []api.Rule{
		join(0, "p", 1), join(0, "p", 2), join(1, "p", 3), join(0, "q", 4), join(0, "p", 0),
		publish(0, "p", in("a")), publish(0, "p", in("", x(api.Gt, 3))), publish(1, "p", in("")), publish(0, "q", in("a/b")),
		observe(0, "p", in("a")), observe(0, "p", in("", x(api.Gt, 3))), observe(1, "p", in("")), observe(0, "q", in("a/b")),
		hide(0, "p", "", "x"), revoke(0), revoke(1),
		{Kind: 5, Tenant: 0, Who: "p", Broker: 1}, {Kind: -1, Tenant: 0, Who: "p", Filter: in("")},
		publish(0, "p", in("/")), observe(0, "p", in("", api.Cond{Name: "x", Op: 9})),
	}
}

// TestMayOfAll: all lists of up to three rules, held against the words in another form: from the front, all sorts in one round.
func TestMayOfAll(t *testing.T) {
	events := []api.Event{ev(""), ev("a"), ev("a/b", 4), ev("b", 4), ev("b", 3)}
	filters := []api.Filter{in(""), in("a"), in("a/b", x(api.Gt, 5)), in("b", x(api.Gt, 3)), in("b", void("x"))}
	l := few()
	check := func(rules []api.Rule) {
		for _, p := range []struct {
			tenant int
			who    string
		}{{0, "p"}, {1, "p"}, {0, "q"}, {1, "q"}} {
			homes := []int{}
			var pub, obs []api.Filter
			for _, r := range rules {
				if r.Tenant != p.tenant || r.Who != p.who {
					continue
				}
				switch r.Kind {
				case api.Join:
					homes = append(homes, r.Broker)
				case api.Publish:
					pub = append(pub, r.Filter)
				case api.Observe:
					obs = append(obs, r.Filter)
				}
			}
			last := 0
			if len(homes) > 0 {
				last = homes[len(homes)-1]
			}
			if at, ok := acl.Home(rules, p.tenant, p.who); at != last || ok != (len(homes) > 0) {
				t.Fatalf("Home(%+v, %+v) = %v %v", rules, p, at, ok)
			}
			for i := range events {
				n, m := 0, 0
				for _, f := range pub {
					if filter.Match(f, events[i]) {
						n++
					}
				}
				for _, f := range obs {
					if filter.Covers(f, filters[i]) {
						m++
					}
				}
				if acl.MayPublish(rules, p.tenant, p.who, events[i]) != (n*len(homes) > 0) {
					t.Fatalf("MayPublish(%+v, %+v, %+v)", rules, p, events[i])
				}
				if acl.MayObserve(rules, p.tenant, p.who, filters[i]) != (m*len(homes) > 0) {
					t.Fatalf("MayObserve(%+v, %+v, %+v)", rules, p, filters[i])
				}
			}
		}
	}
	check(nil)
	for _, a := range l {
		check([]api.Rule{a})
		for _, b := range l {
			check([]api.Rule{a, b})
			for _, c := range l {
				check([]api.Rule{a, b, c})
			}
		}
	}
}

// TestLongLists: the rule that allows is found at each place.
func TestLongLists(t *testing.T) {
	for n := 2; n <= 3*api.MaxRules; n += 7 {
		for at := range n {
			l := make([]api.Rule, n)
			for i := range l {
				l[i] = publish(0, "q", in(""))
			}
			l[at] = publish(0, "p", in("a"))
			l[(at+1)%n] = join(0, "p", at%6)
			if b, ok := acl.Home(l, 0, "p"); !ok || b != at%6 || !acl.MayPublish(l, 0, "p", ev("a")) || acl.MayPublish(l, 0, "p", ev("b")) || acl.MayObserve(l, 0, "p", in("a")) {
				t.Fatal(n, at)
			}
			l[at].Kind = api.Observe
			if acl.MayPublish(l, 0, "p", ev("a")) || !acl.MayObserve(l, 0, "p", in("a")) || acl.MayObserve(l, 0, "p", in("b")) {
				t.Fatal(n, at)
			}
		}
	}
}

// TestWhatIsHandedInIsNotChanged: rules, events and filters are as they were.
func TestWhatIsHandedInIsNotChanged(t *testing.T) {
	made := func() ([]api.Rule, api.Event, api.Filter) {
		l := append(few(), with(hide(0, "p", "a", "x"), func(r *api.Rule) { r.Filter.Conds = []api.Cond{x(api.Lt, 5), x(api.Eq, 1)} }))
		return l, ev("a/b", 7), in("a", x(api.Gt, 5), x(api.Eq, 9), x(api.Gt, 5))
	}
	l, e, f := made()
	m, d, g := made()
	for tenant := -1; tenant <= 2; tenant++ {
		for _, who := range []string{"", "p", "q", "P"} {
			acl.Home(l, tenant, who)
			acl.MayPublish(l, tenant, who, e)
			acl.MayObserve(l, tenant, who, f)
		}
	}
	for _, r := range l {
		acl.Right(r)
	}
	if !reflect.DeepEqual(l, m) || !reflect.DeepEqual(e, d) || !reflect.DeepEqual(f, g) {
		t.Error("something was changed")
	}
}

// TestNothingIsKept: an answer hangs on what is handed in, not on what was asked before.
func TestNothingIsKept(t *testing.T) {
	l := []api.Rule{join(0, "p", 2), publish(0, "p", in("a"))}
	for range 2 {
		if at, ok := acl.Home(l, 0, "p"); at != 2 || !ok || !acl.MayPublish(l, 0, "p", ev("a")) {
			t.Fatal("with it")
		}
		l[0].Who, l[1].Filter.Scope = "q", "b"
		if at, ok := acl.Home(l, 0, "p"); at != 0 || ok || acl.MayPublish(l, 0, "p", ev("a")) || acl.MayPublish(l, 0, "p", ev("b")) {
			t.Fatal("without it")
		}
		l[0].Who, l[1].Filter.Scope = "p", "a"
	}
}

// TestOfAnything: none panics, whatever it is given.
func TestOfAnything(t *testing.T) {
	texts := append(append([]string{}, wrongNames...), wrongScopes...)
	for i, s := range texts {
		n := huge[i%len(huge)]
		r := api.Rule{Kind: n, Tenant: n, Who: s, Broker: n, Filter: api.Filter{Scope: s, Conds: []api.Cond{{Name: s, Op: n, Value: api.Value{Kind: n, Num: nan, Text: s}}}}, Name: s, At: n}
		l := []api.Rule{r}
		for kind := api.Join; kind <= api.Revoke; kind++ {
			r.Kind = kind
			l = append(l, r)
		}
		for _, r := range l {
			if got := acl.Right(r); got != right(r) {
				t.Errorf("Right(%+v) = %v", r, got)
			}
		}
		acl.Home(l, n, s)
		acl.MayPublish(l, n, s, api.Event{Scope: s, Attrs: []api.Attr{{Name: s, Value: api.Value{Kind: n}}}})
		acl.MayObserve(l, n, s, r.Filter)
	}
}
