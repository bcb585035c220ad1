package policy_test

import (
	"math"
	"reflect"
	"slices"
	"strings"
	"testing"

	"gazette/acl"
	"gazette/api"
	"gazette/filter"
	"gazette/policy"
)

var nan = math.NaN()

func whole(n int64) api.Value { return api.Value{Kind: api.Int, Int: n} }

// x: a condition of x, of a whole number.
func x(op int, n int64) api.Cond { return api.Cond{Name: "x", Op: op, Value: whole(n)} }

// in: a filter.
func in(scope string, l ...api.Cond) api.Filter { return api.Filter{Scope: scope, Conds: l} }

func join(tenant int, who string, broker int) api.Rule {
	return api.Rule{Kind: api.Join, Tenant: tenant, Who: who, Broker: broker}
}

func publish(tenant int, who string, f api.Filter) api.Rule {
	return api.Rule{Kind: api.Publish, Tenant: tenant, Who: who, Filter: f}
}

func observe(tenant int, who string, f api.Filter) api.Rule {
	return api.Rule{Kind: api.Observe, Tenant: tenant, Who: who, Filter: f}
}

func hide(tenant int, who, scope, name string) api.Rule {
	return api.Rule{Kind: api.Hide, Tenant: tenant, Who: who, Filter: in(scope), Name: name}
}

func revoke(at int) api.Rule { return api.Rule{Kind: api.Revoke, At: at} }

// with: a rule of which one thing is changed.
func with(r api.Rule, change func(*api.Rule)) api.Rule {
	change(&r)
	return r
}

// huge: numbers far out.
var huge = []int{-1, -2, -40, 256, 1 << 32, -1 << 32, 1<<32 + 1, math.MaxInt, math.MinInt}

// person: a name of a principal by its number.
func person(n int) string { return "p" + string(rune('a'+n)) }

// A step is a rule, and what Add is to answer.
type step struct {
	r    api.Rule
	want api.Errno
}

// added: does Add answer so, step by step? How long the log is tells that just those came that were to.
func added(t *testing.T, l *policy.Log, steps ...step) {
	t.Helper()
	for i, s := range steps {
		n := l.Len()
		if s.want == api.OK {
			n++
		}
		if got := l.Add(s.r); got != s.want || l.Len() != n {
			t.Fatalf("step %d: Add(%+v) = %d, of %d rules; not %d, of %d", i, s.r, got, l.Len(), s.want, n)
		}
	}
}

// logOf: a log to which all of these came.
func logOf(t *testing.T, rules ...api.Rule) *policy.Log {
	t.Helper()
	l := new(policy.Log)
	for i, r := range rules {
		if e := l.Add(r); e != api.OK {
			t.Fatalf("rule %d, %+v: error %d", i, r, e)
		}
	}
	return l
}

// all: a log's rules as they are now, place by place.
func all(l *policy.Log) []api.Rule {
	var rules []api.Rule
	for i := range l.Len() {
		r, _ := l.Rule(i)
		rules = append(rules, r)
	}
	return now(rules)
}

// now: rules that stay as they are, whatever is written into those.
func now(l []api.Rule) []api.Rule {
	l = slices.Clone(l)
	for i := range l {
		l[i].Filter.Conds = slices.Clone(l[i].Filter.Conds)
	}
	return l
}

// alike: are they the same rules, in the same order? A list without conditions may be nil or not.
func alike(a, b []api.Rule) bool {
	return slices.EqualFunc(a, b, func(a, b api.Rule) bool {
		if len(a.Filter.Conds) == 0 && len(b.Filter.Conds) == 0 {
			a.Filter.Conds, b.Filter.Conds = nil, nil
		}
		return reflect.DeepEqual(a, b)
	})
}

// versions: what counts now by each version of a log.
func versions(l *policy.Log) [][]api.Rule {
	var counts [][]api.Rule
	for v := range l.Len() + 1 {
		counts = append(counts, now(l.At(v)))
	}
	return counts
}

// empty: is there nothing in a log?
func empty(t *testing.T, l *policy.Log) {
	t.Helper()
	if l.Len() != 0 {
		t.Fatal("it has", l.Len())
	}
	for _, n := range append([]int{0, 1, 39, 40, 41}, huge...) {
		if r, ok := l.Rule(n); ok || !reflect.DeepEqual(r, api.Rule{}) {
			t.Error("it has a rule at", n, r)
		}
		if at := l.At(n); len(at) != 0 {
			t.Error("rules count by version", n, at)
		}
	}
}

// TestALogThatWasMadeByNobody is empty, however it came about.
func TestALogThatWasMadeByNobody(t *testing.T) {
	var l policy.Log
	empty(t, &l)
	empty(t, new(policy.Log))
	in := struct{ policy.Log }{}
	empty(t, &in.Log)
	made, n := policy.Replay()
	if made == nil || n != 0 {
		t.Fatal(made, n)
	}
	empty(t, made)
	for _, l := range []*policy.Log{&l, &in.Log, made} { // and rules may come to it
		added(t, l, step{join(0, "p", 0), api.OK}, step{revoke(0), api.ErrArg})
	}
}

func TestAdd(t *testing.T) {
	added(t, new(policy.Log),
		step{publish(0, "p", in("")), api.ErrArg}, // nobody is there
		step{observe(0, "p", in("")), api.ErrArg},
		step{hide(0, "p", "", "x"), api.ErrArg},
		step{revoke(0), api.ErrArg},
		step{join(0, "p", 2), api.OK}, // 0
		step{join(0, "p", 2), api.ErrThere},
		step{join(0, "p", 5), api.ErrThere}, // at another broker too
		step{publish(0, "q", in("")), api.ErrArg},
		step{publish(1, "p", in("")), api.ErrArg}, // of that tenant it isn't there
		step{observe(0, "q", in("")), api.ErrArg},
		step{observe(1, "p", in("")), api.ErrArg},
		step{hide(0, "q", "", "x"), api.ErrArg},
		step{hide(3, "p", "", "x"), api.ErrArg},
		step{join(1, "p", 2), api.OK},         // 1: a principal of its own
		step{join(0, "q", 2), api.OK},         // 2
		step{publish(0, "p", in("")), api.OK}, // 3
		step{publish(0, "p", in("")), api.OK}, // 4: the same once more
		step{observe(1, "p", in("a")), api.OK},
		step{hide(0, "q", "a", "x"), api.OK}, // 6
		step{revoke(0), api.ErrArg},          // a Join's
		step{revoke(2), api.ErrArg},
		step{revoke(7), api.ErrArg}, // its own place
		step{revoke(8), api.ErrArg},
		step{revoke(3), api.OK}, // 7
		step{revoke(3), api.ErrArg},
		step{revoke(7), api.ErrArg}, // a Revoke's
		step{revoke(4), api.OK},     // 8: the one that is the same isn't revoked by that
		step{revoke(4), api.ErrArg},
		step{revoke(5), api.OK},
		step{revoke(6), api.OK}, // 10
		step{revoke(6), api.ErrArg},
		step{revoke(10), api.ErrArg},
		step{revoke(11), api.ErrArg},
		step{join(0, "p", 2), api.ErrThere}, // it is still there
		step{join(0, "q", 2), api.ErrThere},
		step{publish(0, "p", in("")), api.OK}, // 11: anew
		step{revoke(3), api.ErrArg},           // the elder one stays revoked
		step{revoke(11), api.OK},
		step{hide(0, "q", "a", "x"), api.OK},
		step{join(3, "abcdefghijkl", 5), api.OK},
	)
}

// TestAddAsksForARightRule: of whatever isn't, the error is ErrForm, whatever else may be said of it.
func TestAddAsksForARightRule(t *testing.T) {
	rules := []api.Rule{
		{}, // a Join of nobody
		{Kind: -1, Who: "p"}, {Kind: 5, Who: "p"}, {Kind: 9},
		join(-1, "p", 0), join(4, "p", 0), join(0, "", 0), join(0, "P", 0), join(0, "abcdefghijklm", 0), join(0, "p", -1), join(0, "p", 6),
		publish(-1, "p", in("")), publish(4, "p", in("")), publish(0, "", in("")), publish(0, "p", in("/")), publish(0, "p", in("", x(8, 1))),
		observe(-1, "p", in("")), observe(4, "p", in("")), observe(0, "9", in("")), observe(0, "p", in("a/b/c/d/e")), observe(0, "p", in("", x(-1, 1))),
		publish(0, "p", in("", seven()...)), observe(0, "p", in("", seven()...)),
		hide(-1, "p", "", "x"), hide(4, "p", "", "x"), hide(0, " ", "", "x"), hide(0, "p", "A", "x"), hide(0, "p", "", ""), hide(0, "p", "", "X"),
		revoke(-1), revoke(math.MinInt),
	}
	l := logOf(t, join(0, "p", 1), publish(0, "p", in("")))
	full := fullLog(t)
	for _, r := range rules {
		if acl.Right(r) {
			t.Fatal(r)
		}
		for _, l := range []*policy.Log{new(policy.Log), l, full} { // none of them came to the second one either
			added(t, l, step{r, api.ErrForm})
		}
	}
}

// seven: more conditions than a filter may have, of which one implies all others: of Norm one would be left.
func seven() []api.Cond {
	var l []api.Cond
	for n := range api.MaxConds + 1 {
		l = append(l, x(api.Gt, int64(n)))
	}
	return l
}

// fullLog: a log to which no more may come: a Join, rules of it, and a Revoke at last.
func fullLog(t *testing.T) *policy.Log {
	t.Helper()
	l := logOf(t, join(0, "p", 1))
	for l.Len() < api.MaxRules-1 {
		added(t, l, step{observe(0, "p", in("")), api.OK})
	}
	added(t, l, step{revoke(1), api.OK})
	return l
}

// TestAddToAFullLog: ErrFull comes ahead of all that is asked of a rule's kind.
func TestAddToAFullLog(t *testing.T) {
	l := fullLog(t)
	if l.Len() != 40 {
		t.Fatal(l.Len())
	}
	for range 3 {
		for _, r := range []api.Rule{
			join(0, "q", 1), join(0, "p", 1), publish(0, "p", in("")), publish(0, "q", in("")), observe(0, "p", in("")), observe(1, "p", in("")), hide(0, "p", "", "x"), hide(0, "q", "", "x"),
			revoke(2), revoke(0), revoke(1), revoke(38), revoke(39), revoke(40), revoke(math.MaxInt),
		} {
			added(t, l, step{r, api.ErrFull})
		}
	}
}

// TestTheLastRuleOfALog: the fortieth may be of any kind, and is asked as any other one.
func TestTheLastRuleOfALog(t *testing.T) {
	for _, c := range []step{
		{join(0, "q", 1), api.OK}, {join(0, "p", 1), api.ErrThere}, {publish(0, "p", in("")), api.OK}, {publish(0, "q", in("")), api.ErrArg},
		{hide(0, "p", "", "x"), api.OK}, {revoke(38), api.OK}, {revoke(39), api.ErrArg}, {revoke(40), api.ErrArg}, {revoke(0), api.ErrArg},
	} {
		l := logOf(t, join(0, "p", 1))
		for l.Len() < api.MaxRules-1 {
			added(t, l, step{observe(0, "p", in("")), api.OK})
		}
		added(t, l, c)
		if c.want != api.OK {
			added(t, l, step{observe(0, "p", in("a")), api.OK})
		}
		added(t, l, step{observe(0, "p", in("a")), api.ErrFull})
	}
}

// TestAddOfMorePeople: there are twelve, of all tenants together.
func TestAddOfMorePeople(t *testing.T) {
	for _, tenants := range []int{1, 2, 3, 4} {
		l := new(policy.Log)
		for n := range 12 {
			tenant := n % tenants
			added(t, l,
				step{join(tenant, person(n/tenants), n%6), api.OK},
				step{join(tenant, person(n/tenants), n%6), api.ErrThere}, // the twelfth too, so that comes ahead of ErrFull
				step{hide(tenant, person(n/tenants), "", "x"), api.OK},   // what isn't a Join isn't counted
			)
		}
		added(t, l,
			step{join(0, "q", 0), api.ErrFull}, step{join(3, "q", 0), api.ErrFull}, step{join(0, person(0), 0), api.ErrThere},
			step{hide(0, "q", "", "x"), api.ErrArg}, step{publish(0, person(0), in("")), api.OK}, step{observe(0, person(0), in("")), api.OK},
			step{revoke(l.Len() + 1), api.OK}, step{revoke(1), api.OK}, step{revoke(0), api.ErrArg},
			step{join(0, "q", 0), api.ErrFull}, // a revocation makes no room for people
		)
	}
}

// TestAddAsksWhichPrincipal: one is told from another one by its tenant and by its name.
func TestAddAsksWhichPrincipal(t *testing.T) {
	people := []string{"p", "q", "pp", "p0", "abcdefghijkl", "abcdefghijkm"}
	for a := range api.MaxTenants {
		for _, p := range people {
			for b := range api.MaxTenants {
				for _, q := range people {
					l := logOf(t, join(a, p, 0))
					rest, again := api.ErrArg, api.OK
					if a == b && p == q {
						rest, again = api.OK, api.ErrThere
					}
					added(t, l, step{publish(b, q, in("")), rest}, step{observe(b, q, in("")), rest}, step{hide(b, q, "", "x"), rest}, step{join(b, q, 1), again})
				}
			}
		}
	}
}

// TestAddOfARevoke: of its places, with rules of all kinds, and of numbers far out.
func TestAddOfARevoke(t *testing.T) {
	rules := []api.Rule{join(0, "p", 0), publish(0, "p", in("")), join(1, "p", 0), observe(0, "p", in("")), hide(1, "p", "", "x"), revoke(3), hide(0, "p", "a", "y")}
	may := []int{1, 4, 6}
	places := []int{0, 1, 2, 3, 4, 5, 6, 7, 8, 39, 40, 41, 256, 1 << 32, 1<<32 + 1, 1<<32 + 4, math.MaxInt}
	for _, at := range places {
		l := logOf(t, rules...)
		want := api.ErrArg
		if slices.Contains(may, at) {
			want = api.OK
		}
		added(t, l, step{revoke(at), want}, step{revoke(at), api.ErrArg})
	}
	l := logOf(t, rules...)
	for _, at := range may { // all, one behind the other
		added(t, l, step{revoke(at), api.OK})
	}
	for _, at := range places {
		added(t, l, step{revoke(at), api.ErrArg})
	}
}

// TestAddOfARevokeAsksForItsPlaceAlone: what else it says plays no part, and what At other rules have neither.
func TestAddOfARevokeAsksForItsPlaceAlone(t *testing.T) {
	odd := api.Rule{Kind: api.Revoke, Tenant: -7, Who: "NO", Broker: 99, Filter: in("/", seven()...), Name: "\xff", At: 1}
	l := logOf(t, join(0, "p", 0), publish(0, "p", in("")), join(1, "q", 0))
	added(t, l, step{odd, api.OK}, step{odd, api.ErrArg})
	if r, ok := l.Rule(3); !ok || !alike([]api.Rule{r}, []api.Rule{odd}) {
		t.Error("it isn't as it was told:", r)
	}
	if got := l.At(4); len(got) != 2 {
		t.Error(got)
	}
	for _, at := range append([]int{0, 1, 2, 3}, huge...) {
		point := func(r *api.Rule) { r.At = at }
		l := logOf(t, join(0, "p", 0), publish(0, "p", in("")), with(join(1, "p", 0), point), with(publish(0, "p", in("a")), point), with(observe(0, "p", in("a")), point), with(hide(0, "p", "a", "x"), point))
		if got := l.At(6); len(got) != 6 || !alike(got, all(l)) {
			t.Error("they revoke something:", at, got)
		}
		added(t, l, step{revoke(1), api.OK}, step{revoke(3), api.OK})
	}
}

func TestRule(t *testing.T) {
	rules := []api.Rule{join(0, "p", 5), publish(0, "p", in("a", x(api.Lt, 3))), hide(0, "p", "a/b", "x"), revoke(1), observe(0, "p", in("b"))}
	l := logOf(t, rules...)
	for i, want := range rules { // a rule that is revoked is there all the same, and so is what revokes it
		if r, ok := l.Rule(i); !ok || !alike([]api.Rule{r}, []api.Rule{want}) {
			t.Errorf("Rule(%d) = %+v %v", i, r, ok)
		}
	}
	for _, i := range append([]int{5, 6, 39, 40}, huge...) {
		if r, ok := l.Rule(i); ok || !reflect.DeepEqual(r, api.Rule{}) {
			t.Errorf("Rule(%d) = %+v %v", i, r, ok)
		}
	}
	full := fullLog(t)
	if r, ok := full.Rule(39); !ok || r.Kind != api.Revoke {
		t.Error(r, ok)
	}
	if r, ok := full.Rule(40); ok {
		t.Error(r)
	}
}

func TestAt(t *testing.T) {
	rules := []api.Rule{
		join(0, "p", 5), publish(0, "p", in("a")), hide(0, "p", "a", "x"), join(1, "q", 0), observe(1, "q", in("")),
		revoke(2), publish(0, "p", in("a")), revoke(1), hide(0, "p", "a", "x"), revoke(6), revoke(4),
	}
	l := logOf(t, rules...)
	for version, want := range [][]int{
		{}, {0}, {0, 1}, {0, 1, 2}, {0, 1, 2, 3}, {0, 1, 2, 3, 4},
		{0, 1, 3, 4}, {0, 1, 3, 4, 6}, {0, 3, 4, 6}, {0, 3, 4, 6, 8}, {0, 3, 4, 8}, {0, 3, 8},
	} {
		var count []api.Rule
		for _, i := range want {
			count = append(count, rules[i])
		}
		if got := l.At(version); !alike(got, count) {
			t.Errorf("At(%d) = %+v, not %+v", version, got, count)
		}
	}
	for _, version := range []int{11, 12, 40, 41, 256, 1 << 32, 1<<32 + 1, math.MaxInt} {
		if !alike(l.At(version), l.At(11)) {
			t.Error("it isn't brought to Len:", version)
		}
	}
	for _, version := range []int{-1, -2, -11, -1 << 32, math.MinInt} {
		if len(l.At(version)) != 0 {
			t.Error("it isn't brought to 0:", version)
		}
	}
}

// TestVersionsStay: what comes later changes nothing of what counted by a version.
func TestVersionsStay(t *testing.T) {
	l := new(policy.Log)
	var before [][]api.Rule
	for i, r := range []api.Rule{
		join(0, "p", 1), publish(0, "p", in("a")), observe(0, "p", in("b", x(api.Eq, 3))), revoke(1), hide(0, "p", "", "x"),
		revoke(2), join(2, "p", 1), revoke(4), publish(0, "p", in("a")), publish(2, "p", in("")), revoke(9), revoke(8),
	} {
		before = append(before, now(l.At(l.Len())))
		added(t, l, step{r, api.OK})
		if got := versions(l); !slices.EqualFunc(got[:i+1], before, alike) {
			t.Fatalf("behind rule %d there are %+v, not %+v", i, got, before)
		}
	}
}

// TestAddKeepsNorm: of each kind a filter that may be is kept in its Norm.
func TestAddKeepsNorm(t *testing.T) {
	void := api.Cond{Name: "y", Op: api.Lt, Value: api.Value{Kind: api.Num, Num: nan}}
	for _, c := range []struct {
		f, want api.Filter
	}{
		{in(""), in("")},
		{in("a/b", x(api.Gt, 3)), in("a/b", x(api.Gt, 3))},
		{in("a", x(api.Gt, 3), x(api.Gt, 5)), in("a", x(api.Gt, 5))},
		{in("a", x(api.Gt, 5), x(api.Gt, 3)), in("a", x(api.Gt, 5))},
		{in("a", x(api.Lt, 9), x(api.Gt, 5)), in("a", x(api.Lt, 9), x(api.Gt, 5))},
		{in("a", x(api.Gt, 5), x(api.Lt, 9)), in("a", x(api.Lt, 9), x(api.Gt, 5))},
		{in("a", x(api.Eq, 5), x(api.Eq, 5)), in("a", x(api.Eq, 5))},
		{in("a", x(api.Has, 7)), in("a", api.Cond{Name: "x", Op: api.Has})},
		{in("a", seven()[1:]...), in("a", x(api.Gt, 6))},
		{in("a", api.Cond{Name: "x", Op: api.Eq, Value: api.Value{Kind: api.Int, Int: 4, Text: "no", Yes: true}}), in("a", x(api.Eq, 4))},
		{in("a", api.Cond{Name: "x", Op: api.Eq, Value: api.Value{Kind: api.Num, Num: math.Copysign(0, -1)}}), in("a", api.Cond{Name: "x", Op: api.Eq, Value: api.Value{Kind: api.Num}})},
	} {
		for _, r := range []api.Rule{join(1, "q", 2), publish(0, "p", in("")), observe(0, "p", in("")), hide(0, "p", "", "x"), revoke(1)} {
			r.Filter = c.f
			l := logOf(t, join(0, "p", 1), hide(0, "p", "b", "y"))
			added(t, l, step{r, api.OK})
			r.Filter = c.want
			got, ok := l.Rule(2)
			if !ok || !alike([]api.Rule{got}, []api.Rule{r}) || math.Signbit(firstNum(got)) {
				t.Errorf("of %+v there is %+v", c, got)
			}
			if at := l.At(3); r.Kind != api.Revoke && !alike(at[2:], []api.Rule{r}) {
				t.Errorf("of %+v there counts %+v", c, at)
			}
		}
	}
	l := logOf(t, join(0, "p", 1), publish(0, "p", in("a", void, x(api.Ne, 1), void)))
	if r, _ := l.Rule(1); filter.Print(r.Filter) != filter.Key(in("a", void, x(api.Ne, 1), void)) || len(r.Filter.Conds) != 2 {
		t.Error(r)
	}
}

// firstNum: the number of a rule's first condition, if it has one.
func firstNum(r api.Rule) float64 {
	if len(r.Filter.Conds) == 0 {
		return 0
	}
	return r.Filter.Conds[0].Value.Num
}

// TestAddKeepsWhatIsNotRightAsItIs: where a filter need not be one.
func TestAddKeepsWhatIsNotRightAsItIs(t *testing.T) {
	odd := []api.Filter{
		in("", seven()...),
		in("a/b/c/d/e", x(api.Gt, 5), x(api.Gt, 3)),
		in("A", x(api.Gt, 5), x(api.Gt, 3)),
		in("a", x(api.Gt, 5), x(api.Gt, 3), x(8, 3)),
		in("a", x(api.Has, 7), api.Cond{Name: "X", Op: api.Has, Value: whole(3)}),
		in("a", x(api.Gt, 5), x(api.Gt, 3), api.Cond{Name: "x", Op: api.Has, Value: api.Value{Kind: 4}}),
		in("a", api.Cond{Name: "z", Op: api.Eq, Value: api.Value{Kind: api.Text, Text: strings.Repeat("a", api.MaxText+1)}}, x(api.Gt, 5), x(api.Gt, 3)),
	}
	for i, f := range odd {
		for _, r := range []api.Rule{join(1, "q", 2), hide(0, "p", "", "x"), revoke(1)} {
			r.Filter = f
			if filter.Right(f) {
				t.Fatal(i, f)
			}
			if r.Kind == api.Hide && (i == 1 || i == 2) { // of a Hide the scope is asked for
				added(t, logOf(t, join(0, "p", 1)), step{r, api.ErrForm})
				continue
			}
			l := logOf(t, join(0, "p", 1), hide(0, "p", "b", "y"), r)
			got, ok := l.Rule(2)
			if !ok || !alike([]api.Rule{got}, []api.Rule{r}) {
				t.Errorf("of %+v there is %+v", r, got)
			}
			if at := l.At(3); r.Kind != api.Revoke && !alike(at[2:], []api.Rule{r}) {
				t.Errorf("of %+v there counts %+v", r, at)
			}
		}
	}
}

// TestAddKeepsAllElse: what a rule's kind doesn't speak of stays as it was told.
func TestAddKeepsAllElse(t *testing.T) {
	for _, n := range huge {
		rules := []api.Rule{
			{Kind: api.Join, Tenant: 3, Who: "p", Broker: 5, Filter: in("b"), Name: "NO", At: n},
			{Kind: api.Publish, Tenant: 3, Who: "p", Broker: n, Filter: in("a"), Name: "", At: n},
			{Kind: api.Observe, Tenant: 3, Who: "p", Broker: n, Filter: in("a"), Name: "\x00", At: n},
			{Kind: api.Hide, Tenant: 3, Who: "p", Broker: n, Filter: in("a"), Name: "x", At: n},
			{Kind: api.Revoke, Tenant: n, Who: "NO", Broker: n, Filter: in("c"), Name: "N", At: 2},
		}
		l := logOf(t, rules...)
		if !alike(all(l), rules) {
			t.Errorf("%+v, not %+v", all(l), rules)
		}
		if want := append(rules[:2:2], rules[3]); !alike(l.At(5), want) {
			t.Errorf("%+v, not %+v", l.At(5), want)
		}
	}
}

// TestAnErrorChangesNothing: neither the rules nor any version.
func TestAnErrorChangesNothing(t *testing.T) {
	for _, l := range []*policy.Log{logOf(t, join(0, "p", 1), publish(0, "p", in("a", x(api.Lt, 3))), hide(0, "p", "", "x"), revoke(1)), fullLog(t)} {
		rules, counts := all(l), versions(l)
		for _, r := range []api.Rule{{}, {Kind: 9}, revoke(0), revoke(1), revoke(3), revoke(77), join(0, "p", 3), publish(1, "p", in("")), observe(0, "q", in("")), hide(2, "p", "", "x"), publish(0, "p", in("A"))} {
			if l.Add(r) == api.OK {
				t.Fatal("it came:", r)
			}
			if !alike(all(l), rules) || !slices.EqualFunc(versions(l), counts, alike) {
				t.Fatal("it changed something:", r)
			}
		}
	}
}

// TestWhatIsHandedInIsNotChangedNorKept: conditions that are handed in stay with whoever did that.
func TestWhatIsHandedInIsNotChangedNorKept(t *testing.T) {
	conds := func() []api.Cond {
		l := make([]api.Cond, 0, 20)
		return append(l, x(api.Lt, 9), x(api.Gt, 3), x(api.Gt, 5), x(api.Has, 2))
	}
	made := func() []api.Rule {
		l := make([]api.Rule, 0, 20)
		l = append(l, join(0, "p", 1), publish(0, "p", in("a", conds()...)), observe(0, "p", in("a", conds()...)), hide(0, "p", "a", "x"), revoke(1))
		l[0].Filter = in("A", conds()...) // that isn't one
		l[3].Filter.Conds = append(conds(), x(9, 9))
		l[4].Filter = in("A", conds()...)
		return l
	}
	for _, build := range []func(l []api.Rule) *policy.Log{
		func(l []api.Rule) *policy.Log { return logOf(t, l...) },
		func(l []api.Rule) *policy.Log { r, _ := policy.Replay(l...); return r },
	} {
		rules := made()
		l := build(rules)
		if !reflect.DeepEqual(rules, made()) {
			t.Fatal("they were changed")
		}
		want, counts := all(l), versions(l)
		for i := range rules {
			spoil(rules[i].Filter.Conds)
			rules[i] = revoke(77)
		}
		if !alike(all(l), want) || !slices.EqualFunc(versions(l), counts, alike) {
			t.Fatal("they were kept")
		}
	}
}

// spoil: writes over conditions, and over what room is behind them.
func spoil(l []api.Cond) {
	l = l[:cap(l)]
	for i := range l {
		l[i] = x(api.Ne, 77)
	}
}

// TestWhatIsHandedOutIsNew: written over, it changes nothing of a log, nor of what else it handed out.
func TestWhatIsHandedOutIsNew(t *testing.T) {
	l := logOf(t, join(0, "p", 1), publish(0, "p", in("a", x(api.Lt, 9), x(api.Gt, 5))), with(hide(0, "p", "a", "x"), func(r *api.Rule) { r.Filter.Conds = seven() }), observe(0, "p", in("b", x(api.Eq, 3))), revoke(3))
	rules, counts := all(l), versions(l)
	for v := range 7 {
		at := l.At(v)
		at = at[:cap(at)]
		for i := range at {
			spoil(at[i].Filter.Conds)
			at[i] = revoke(77)
		}
	}
	for i := range 5 {
		r, _ := l.Rule(i)
		spoil(r.Filter.Conds)
	}
	if !alike(all(l), rules) || !slices.EqualFunc(versions(l), counts, alike) {
		t.Error("something was changed")
	}
}

// TestLogsAreApart: what comes to one comes to no other one.
func TestLogsAreApart(t *testing.T) {
	rules := []api.Rule{join(0, "p", 1), publish(0, "p", in("a")), revoke(1)}
	a, b := logOf(t, rules...), logOf(t, rules[:2]...)
	c, _ := policy.Replay(rules[:2]...)
	added(t, b, step{observe(0, "p", in("")), api.OK})
	added(t, c, step{join(2, "p", 1), api.OK})
	added(t, a, step{publish(2, "p", in("")), api.ErrArg})
	if !alike(all(a), rules) || len(b.At(3)) != 3 || len(c.At(3)) != 3 || all(b)[2].Kind != api.Observe || all(c)[2].Kind != api.Join {
		t.Error(all(a), all(b), all(c))
	}
}

func TestReplay(t *testing.T) {
	p, pub, hid := join(0, "p", 1), publish(0, "p", in("a")), hide(0, "p", "a", "x")
	for _, c := range []struct {
		rules []api.Rule
		want  int
	}{
		{nil, 0},
		{[]api.Rule{}, 0},
		{[]api.Rule{p}, 1},
		{[]api.Rule{pub}, 0},
		{[]api.Rule{pub, p, pub}, 0}, // what is behind one that may not come doesn't come
		{[]api.Rule{p, p}, 1},
		{[]api.Rule{p, p, pub}, 1},
		{[]api.Rule{p, pub}, 2},
		{[]api.Rule{p, pub, hid}, 3},
		{[]api.Rule{p, pub, hid, revoke(1)}, 4},
		{[]api.Rule{p, pub, hid, revoke(1), revoke(1), revoke(2)}, 4},
		{[]api.Rule{p, pub, hid, revoke(0), revoke(2)}, 3},
		{[]api.Rule{p, pub, {Kind: 9}, hid}, 2},
		{[]api.Rule{{}, p}, 0},
		{[]api.Rule{p, join(0, "q", 1), join(1, "p", 1), revoke(3), pub}, 3},
	} {
		l, n := policy.Replay(c.rules...)
		if l == nil || n != c.want || l.Len() != n || !alike(all(l), c.rules[:n]) {
			t.Errorf("Replay(%+v): %d", c.rules, n)
			continue
		}
		if !slices.EqualFunc(versions(l), versions(logOf(t, c.rules[:n]...)), alike) {
			t.Errorf("Replay(%+v) isn't what Add makes", c.rules)
		}
		if again, m := policy.Replay(all(l)...); m != n || !alike(all(again), all(l)) { // what a log has may come to another one
			t.Errorf("Replay of what Replay(%+v) has: %d", c.rules, m)
		}
	}
}

// TestReplayOfMany: more than a log takes, and more people than it takes.
func TestReplayOfMany(t *testing.T) {
	rules := []api.Rule{join(0, "p", 1)}
	var people []api.Rule
	for n := range 100 {
		rules = append(rules, observe(0, "p", in("")))
		people = append(people, join(n%4, person(n/4), 1))
	}
	if l, n := policy.Replay(rules...); n != api.MaxRules || l.Len() != n || len(l.At(99)) != n {
		t.Error(n)
	}
	if l, n := policy.Replay(rules[:40]...); n != 40 || l.Add(rules[1]) != api.ErrFull {
		t.Error(n)
	}
	if l, n := policy.Replay(rules[:39]...); n != 39 || l.Add(rules[1]) != api.OK || l.Len() != 40 || l.Add(rules[1]) != api.ErrFull {
		t.Error(n)
	}
	if l, n := policy.Replay(people...); n != api.MaxPeople || l.Len() != n || len(l.At(99)) != n {
		t.Error(n)
	}
	l, n := policy.Replay(rules[0], rules[1])
	added(t, l, step{revoke(1), api.OK}, step{revoke(n), api.ErrArg}) // more may come to what it made
}

// A story is what a log is in another form: of each rule, by which version it counts no more.
type story struct {
	rules []api.Rule
	until []int
	there map[[2]string]int
}

const forever = 1 << 30

// tell: what Add says, by the words in another form: all that may be wrong is gathered, and the first of it is answered.
func (s *story) tell(r api.Rule) api.Errno {
	who := [2]string{string(rune(r.Tenant)), r.Who}
	_, known := s.there[who]
	var wrong []api.Errno
	say := func(e api.Errno, holds bool) {
		if holds {
			wrong = append(wrong, e)
		}
	}
	say(api.ErrForm, !acl.Right(r))
	say(api.ErrFull, len(s.rules) == 40)
	say(api.ErrArg, r.Kind == api.Revoke && !s.standing(r.At))
	say(api.ErrThere, r.Kind == api.Join && known)
	say(api.ErrFull, r.Kind == api.Join && len(s.there) == 12)
	say(api.ErrArg, r.Kind != api.Join && r.Kind != api.Revoke && !known)
	if len(wrong) > 0 {
		return wrong[0]
	}
	switch r.Kind {
	case api.Join:
		s.there[who] = r.Broker
	case api.Revoke:
		s.until[r.At] = len(s.rules)
	}
	if filter.Right(r.Filter) {
		r.Filter = filter.Norm(r.Filter)
	}
	s.rules = append(s.rules, r)
	s.until = append(s.until, forever)
	return api.OK
}

// standing: is there a rule at a place that may be revoked?
func (s *story) standing(at int) bool {
	if at < 0 || at > len(s.rules)-1 || s.until[at] != forever {
		return false
	}
	return s.rules[at].Kind >= api.Publish && s.rules[at].Kind <= api.Hide
}

// by: what counts by a version.
func (s *story) by(version int) []api.Rule {
	var l []api.Rule
	for i, r := range s.rules {
		if i < version && s.until[i] >= version && r.Kind != api.Revoke {
			l = append(l, r)
		}
	}
	return l
}

// held: does a log answer as its story does, behind one more rule?
func held(t *testing.T, l *policy.Log, s *story, r api.Rule) {
	t.Helper()
	want := s.tell(r)
	if got := l.Add(r); got != want || l.Len() != len(s.rules) {
		t.Fatalf("behind %+v: Add(%+v) = %d, not %d", s.rules, r, got, want)
	}
}

// same: are a log's rules and versions those of its story?
func same(t *testing.T, l *policy.Log, s *story) {
	t.Helper()
	if !alike(all(l), s.rules) {
		t.Fatalf("%+v, not %+v", all(l), s.rules)
	}
	for v := -1; v <= len(s.rules)+1; v++ {
		if !alike(l.At(v), s.by(v)) {
			t.Fatalf("of %+v version %d is %+v", s.rules, v, l.At(v))
		}
	}
}

// few: rules of which some may come behind one another, and some may not.
func few() []api.Rule {
	return []api.Rule{
		join(0, "p", 1), join(0, "p", 2), join(1, "p", 1), publish(0, "p", in("a", x(api.Gt, 3), x(api.Gt, 5))), hide(1, "p", "a", "x"),
		revoke(0), revoke(1), revoke(2), with(observe(0, "p", in("")), func(r *api.Rule) { r.At = 1 }), {Kind: 5, Who: "p"},
	}
}

// TestOfAllShortLists: all lists of five of these rules, held against the words in another form.
func TestOfAllShortLists(t *testing.T) {
	rules := few()
	const long = 5
	count := 1
	for range long {
		count *= len(rules)
	}
	for n := range count {
		l, s := new(policy.Log), &story{there: map[[2]string]int{}}
		for range long {
			held(t, l, s, rules[n%len(rules)])
			n /= len(rules)
		}
		same(t, l, s)
	}
}

// TestOfLongLists: rules picked one behind the other till logs are full, held against the words in another form.
func TestOfLongLists(t *testing.T) {
	state := uint32(1)
	pick := func(n int) int {
		state = state*1664525 + 1013904223
		return int(state>>8) % n
	}
	for round := range 400 {
		l, s := new(policy.Log), &story{there: map[[2]string]int{}}
		for range 120 {
			r := api.Rule{Kind: pick(6), Tenant: pick(5), Who: person(pick(2 + round%5)), Broker: pick(7), Name: "x", At: pick(44) - 1}
			switch pick(3) {
			case 0:
				r.Filter = in("a", x(pick(8), int64(pick(3))), x(pick(8), int64(pick(3))))
			case 1:
				r.Filter = in("a/b", x(pick(9), 1))
			}
			if pick(3) == 0 { // a place that may be there
				r.Kind, r.At = api.Revoke, pick(l.Len()+2)
			}
			held(t, l, s, r)
		}
		same(t, l, s)
	}
}

// TestOfAnything: none panics, whatever it is given.
func TestOfAnything(t *testing.T) {
	texts := []string{"", "p", "P", "\x00", "\xff", "é", "a/b", "//", strings.Repeat("a", 1000)}
	for _, l := range []*policy.Log{new(policy.Log), logOf(t, join(0, "p", 1), publish(0, "p", in(""))), fullLog(t)} {
		for _, s := range texts {
			for _, n := range append([]int{0, 1, 2, 3}, huge...) {
				for kind := -1; kind <= 5; kind++ {
					r := api.Rule{Kind: kind, Tenant: n, Who: s, Broker: n, Filter: api.Filter{Scope: s, Conds: []api.Cond{{Name: s, Op: n, Value: api.Value{Kind: n, Num: nan, Text: s}}}}, Name: s, At: n}
					l.Add(r)
					policy.Replay(r, r)
					l.Rule(n)
					l.At(n)
				}
			}
		}
	}
}
