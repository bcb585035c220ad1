package parse_test

import (
	"math"
	"regexp"
	"slices"
	"strings"
	"testing"

	"gazette/api"
	"gazette/cond"
	"gazette/filter"
	"gazette/parse"
	"gazette/value"
)

var (
	inf = math.Inf(1)
	nan = math.NaN()
)

func whole(n int64) api.Value { return api.Value{Kind: api.Int, Int: n} }
func num(x float64) api.Value { return api.Value{Kind: api.Num, Num: x} }
func text(s string) api.Value { return api.Value{Kind: api.Text, Text: s} }
func yes(b bool) api.Value    { return api.Value{Kind: api.Bool, Yes: b} }

// c: a condition.
func c(name string, op int, v api.Value) api.Cond { return api.Cond{Name: name, Op: op, Value: v} }

// has: a condition that asks for a name alone.
func has(name string) api.Cond { return api.Cond{Name: name, Op: api.Has} }

// of: a filter.
func of(scope string, l ...api.Cond) api.Filter { return api.Filter{Scope: scope, Conds: l} }

// alike: laid alike, signs of noughts and all (== doesn't tell these); any NaN is like any other.
func alike(a, b api.Cond) bool {
	v, w := a.Value, b.Value
	n := math.Float64bits(v.Num) == math.Float64bits(w.Num) || math.IsNaN(v.Num) && math.IsNaN(w.Num)
	return n && a.Name == b.Name && a.Op == b.Op && v.Kind == w.Kind && v.Int == w.Int && v.Text == w.Text && v.Yes == w.Yes
}

// same: filters whose scopes and conditions are alike.
func same(f, g api.Filter) bool {
	return f.Scope == g.Scope && slices.EqualFunc(f.Conds, g.Conds, alike)
}

// isRead: a text is that of this filter.
func isRead(t *testing.T, s string, want api.Filter) {
	t.Helper()
	if f, e := parse.Filter(s); e != api.OK || !same(f, want) {
		t.Errorf("Filter(%q): %q, %d, not %q", s, filter.Print(f), e, filter.Print(want))
	}
}

// isNone: a text is told with an error, and with nothing else.
func isNone(t *testing.T, s string, want api.Errno) {
	t.Helper()
	if f, e := parse.Filter(s); e != want || f.Scope != "" || len(f.Conds) != 0 {
		t.Errorf("Filter(%q): %q, %d, not %d", s, filter.Print(f), e, want)
	}
}

const (
	longest = "abcdefghijkl"  // a name of 12 bytes
	tooLong = "abcdefghijklm" // of 13: none
	deepest = "a/b/c/d"       // a scope of 4 names
)

func TestScope(t *testing.T) {
	for s, want := range map[string]string{
		":": "", " :": "", "     :   ": "", "a:": "a", " a:": "a", "a :": "a", "   a   :  ": "a", "a/b:": "a/b", " a/b : ": "a/b", "has:": "has", "x1/y2: ": "x1/y2",
		deepest + ":": deepest, longest + "/" + longest + "/" + longest + "/" + longest + ":": longest + "/" + longest + "/" + longest + "/" + longest,
	} {
		isRead(t, s, of(want))
		isRead(t, s+"has x", of(want, has("x")))
	}
	for _, s := range []string{
		"", " ", "a", "a/b", "has x", "x > 3", "a has x", "a; has x", "&", "\"a\"", "a\uff1a has x",
		"A:", "/:", "a/:", "/a:", "a//b:", "a b:", "a / b:", "a/ b:", "1:", "a-b:", "a&b:", "&:", "\"a\":", "\":", "\\:", "has x:", "x > 3:", "a\x00:", "\xff:", "\u00e4:", "\t:", "a\t:", "a\n:", "\u00a0a:",
		deepest + "/e:", tooLong + ":", "a/" + tooLong + ":", strings.Repeat("a", 100000) + ":", strings.Repeat("a/", 100000) + ":",
		"::", "a::", ":a:", "a:b:", ": :", "a:b: has x", "a:: has x", "a:has x:",
	} {
		isNone(t, s, api.ErrForm)
	}
	// A : that isn't the first one is one of a value.
	isRead(t, `a: x = ":"`, of("a", c("x", api.Eq, text(":"))))
	isRead(t, `:x = "a: has y" & has z`, of("", c("x", api.Eq, text("a: has y")), has("z")))
	isNone(t, `"a:b": has x`, api.ErrForm)
}

func TestOps(t *testing.T) {
	for word, op := range map[string]int{"=": api.Eq, "!=": api.Ne, "<": api.Lt, "<=": api.Le, ">": api.Gt, ">=": api.Ge, "^": api.Prefix} {
		if cond.Word(op) != word {
			t.Errorf("%q is no word of %d", word, op)
		}
		for s, v := range map[string]api.Value{"3": whole(3), "-3": whole(-3), "0.0": num(0), `"p"`: text("p"), `""`: text(""), "yes": yes(true), "NaN": num(nan)} {
			isRead(t, "a: x "+word+" "+s, of("a", c("x", op, v)))
			isRead(t, ":x  "+word+"   "+s+" ", of("", c("x", op, v)))
			isNone(t, "a: x"+word+" "+s, api.ErrForm)
			isNone(t, "a: x "+word+s, api.ErrForm)
			isNone(t, "a: x"+word+s, api.ErrForm)
			isNone(t, "a: "+word+" "+s, api.ErrForm)
			isNone(t, "a: "+word+" x "+s, api.ErrForm)
			isNone(t, "a: "+s+" "+word+" x", api.ErrForm)
			isNone(t, "a: x "+word+" "+word+" "+s, api.ErrForm)
			isNone(t, "a: x "+word+" "+s+" "+s, api.ErrForm)
		}
		isNone(t, "a: x "+word, api.ErrForm)
		isNone(t, "a: x "+word+"  & has y", api.ErrForm)
		isNone(t, "a: has x "+word+" 3", api.ErrForm)
	}
	for _, word := range []string{"", "has", "~", "==", "!", "=!", "=<", "=>", "<>", "<<", ">>", "^^", "HAS", "Has", "h", "x", "3", "\"=\"", "\\", "\t", "\x00", "\xff", "\u2264", "eq", "0", "-1", "= 0 & x", "x =", "= \"a\" &"} {
		isNone(t, "a: x "+word+" 3", api.ErrForm)
		isNone(t, "a: x "+word+" 0", api.ErrForm)
	}
}

func TestHas(t *testing.T) {
	for _, n := range []string{"x", "y2", "has", "yes", "no", longest} {
		isRead(t, "a: has "+n, of("a", has(n)))
		isRead(t, "a:   has    "+n+"   ", of("a", has(n)))
		// A name that is a word, too.
		isRead(t, ":"+n+" = 3", of("", c(n, api.Eq, whole(3))))
		isRead(t, ": has "+n+" & "+n+" ^ \"has\" & has has", of("", has(n), c(n, api.Prefix, text("has")), has("has")))
	}
	for _, s := range []string{
		"has", " has ", "hasx", "has x y", "has x  y", "has has has", "has x has", "x has", "x has y", "x has 3", "has has 3", "has has = 3", "has = has", "has x = 3", "has x & has", "has & has x",
		"Has x", "HAS x", "ha x", "hass x", "has\tx", "has\nx", "has \"x\"", "has =", "has 3", "has X", "has x,", "has x/y", "has " + tooLong, "has \xff", "has \\", "has :", "has x:", "has\x00x", "has\u00a0x",
	} {
		isNone(t, ":"+s, api.ErrForm)
		isNone(t, "a: "+s+" & x > 3", api.ErrForm)
		isNone(t, "a: x > 3 & "+s, api.ErrForm)
	}
}

func TestNames(t *testing.T) {
	for _, n := range []string{"X", "1", "xY", "x-y", "x_y", "x.y", "x/y", "\"x\"", "\\x", "\xff", "x\xff", "x\x00", "\u00e4", "\t", "x\t", "\nx", "\u00a0x", ":", "x:", "=", ">=", "3", tooLong, strings.Repeat("x", 100000)} {
		isNone(t, "a: "+n+" > 3", api.ErrForm)
		isNone(t, "a: has y & "+n+" > 3", api.ErrForm)
		isNone(t, "a: has "+n, api.ErrForm)
	}
	isNone(t, "a: x y > 3", api.ErrForm)
	isNone(t, "a: > 3", api.ErrForm)
	isRead(t, "a: "+longest+" > 3", of("a", c(longest, api.Gt, whole(3))))
}

func TestValues(t *testing.T) {
	forty := strings.Repeat("z", api.MaxText)
	for s, v := range map[string]api.Value{
		"0": whole(0), "-1": whole(-1), "9223372036854775807": whole(math.MaxInt64), "-9223372036854775808": whole(math.MinInt64),
		"1.5": num(1.5), "3.0": num(3), "0.0": num(0), "-2.0": num(-2), "1e+21": num(1e21), "5e-324": num(5e-324), "+Inf": num(inf), "-Inf": num(-inf), "NaN": num(nan),
		"yes": yes(true), "no": yes(false),
		`""`: text(""), `" "`: text(" "), `"   a   b   "`: text("   a   b   "), `"\n\t\x00\xff\u00a0"`: text("\n\t\x00\xff\u00a0"), `"\\"`: text(`\`), `"\""`: text(`"`), `"has x"`: text("has x"), `"3"`: text("3"), "\"\u00e4\"": text("\u00e4"), `"` + forty + `"`: text(forty),
	} {
		isRead(t, "a: x = "+s, of("a", c("x", api.Eq, v)))
		isRead(t, "a: x =    "+s+"   & has y", of("a", c("x", api.Eq, v), has("y")))
	}
	for _, s := range []string{
		"", "03", "+3", "-0", "--1", "- 1", "3 4", "3,4", "9223372036854775808", "1_000", "0x1", "1.", "1.50", ".5", "-0.0", "1e3", "1e21", "1E+21", "inf", "Inf", "nan", "1e400", "1i",
		"true", "false", "Yes", "NO", "y", "x", "yes no", "has", "=", "\\", "\"", "\"\"\"", "\"a", "a\"", "\"a\"b", "\"a\" \"b\"", "'a'", "'abc'", "`a`", `"\u0041"`, `"\x41"`, `"\'"`, `"\z"`, "\"\n\"", "\"\xff\"", "\"\u00a0\"", "\"a\"\t", "\t3", "3\n", "\x003", `"` + forty + `z"`, `"` + strings.Repeat("z", 100000) + `"`, strings.Repeat("9", 100000),
	} {
		isNone(t, "a: x = "+s, api.ErrForm)
		isNone(t, "a: has y & x = "+s+" & has z", api.ErrForm)
	}
}

// TestBlanks: of all bytes and runes that show nothing, the byte 32 alone is a blank; it may stand twice wherever it may stand.
func TestBlanks(t *testing.T) {
	parts := []string{"", "a/b", ":", "x", ">", "3", "&", "has", "y", ""} // blanks between all of them, not all of which are needed
	needed := []int{4, 5, 8}
	want := of("a/b", c("x", api.Gt, whole(3)), has("y"))
	for i := 1; i < len(parts); i++ {
		for _, gap := range []string{"", " ", "  ", strings.Repeat(" ", 1000), "\t", "\n", "\r", "\v", "\f", "\x00", "\u0085", "\u00a0", "\u2003", "\u3000", "\ufeff", " \t", "\t ", " \t "} {
			for _, other := range []string{"", " ", "   "} {
				s := ""
				for j, p := range parts[1:] {
					switch {
					case j+1 == i:
						s += gap + p
					case slices.Contains(needed, j+1):
						s += " " + other + p
					default:
						s += other + p
					}
				}
				if strings.Trim(gap, " ") == "" && (gap != "" || !slices.Contains(needed, i)) {
					isRead(t, s, want)
				} else {
					isNone(t, s, api.ErrForm)
				}
			}
		}
	}
}

func TestParts(t *testing.T) {
	isRead(t, `a: x ^ "p" & has y`, of("a", c("x", api.Prefix, text("p")), has("y")))
	isRead(t, `:has x&has y&z = 3&z != "&"`, of("", has("x"), has("y"), c("z", api.Eq, whole(3)), c("z", api.Ne, text("&"))))
	// In their order, as many as there are, whether they are needed or not.
	isRead(t, ": z > 3 & x < 1 & has z & z > 3 & z > 1", of("", c("z", api.Gt, whole(3)), c("x", api.Lt, whole(1)), has("z"), c("z", api.Gt, whole(3)), c("z", api.Gt, whole(1))))
	isRead(t, ": x > NaN & x ^ 3", of("", c("x", api.Gt, num(nan)), c("x", api.Prefix, whole(3))))
	// An & within quotes parts nothing.
	for s, v := range map[string]string{`"&"`: "&", `"a & b"`: "a & b", `"& has y"`: "& has y", `"&&&"`: "&&&", `"\"&"`: `"&`, `"&\""`: `&"`, `"\"&\""`: `"&"`, `"\\"`: `\`, `"\\&\\"`: `\&\`, `"\\\"&"`: `\"&`, `"\\\\"`: `\\`, `"\\\\\"& & \\"`: `\\"& & \`, `"\n&"`: "\n&", `"a\" & has b"`: `a" & has b`} {
		isRead(t, ": x = "+s, of("", c("x", api.Eq, text(v))))
		isRead(t, ": x = "+s+"&has y", of("", c("x", api.Eq, text(v)), has("y")))
		isRead(t, ": has y & x = "+s+" & y != "+s+"&has z", of("", has("y"), c("x", api.Eq, text(v)), c("y", api.Ne, text(v)), has("z")))
	}
	for _, s := range []string{
		"&", " & ", "&&", "has x &", "& has x", "has x && has y", "has x & & has y", "has x &&", "&x = 3", "has x, has y", "has x has y", "has x and has y", "has x | has y", "has x\nhas y",
		`x = "&`, `x = &"`, `x = "a & has y`, `x = "a\" & has y`, `x = "a" & y = "b`, `x = "\\\" & has y`, `x = \"a & b\" & has y`, `x = "a" "&" "b"`, `x = a & b`, `x = '&'`, "x = `&`", `has "&"`, `has x\& has y`, `"x & y" = 3`, `x "&" 3`, `x = "\`, `x = "\&"`, `\`, `"`, `"\`, `"\"`,
	} {
		isNone(t, ":"+s, api.ErrForm)
		isNone(t, "a: "+s+" ", api.ErrForm)
	}
}

// TestMany: as many conditions as may be, and more; which error is told ahead of which.
func TestMany(t *testing.T) {
	list := func(n int, last ...string) string {
		return ":" + strings.Join(append(slices.Repeat([]string{" x >= 3 "}, n-len(last)), last...), "&")
	}
	for n := 1; n <= api.MaxConds; n++ {
		isRead(t, list(n), of("", slices.Repeat([]api.Cond{c("x", api.Ge, whole(3))}, n)...))
		isRead(t, "a"+list(n, "has y"), of("a", append(slices.Repeat([]api.Cond{c("x", api.Ge, whole(3))}, n-1), has("y"))...))
		for _, part := range []string{"has X", "X = 3", "has", "x >= 03"} {
			isNone(t, list(n, part), api.ErrForm)
		}
		isNone(t, "A"+list(n), api.ErrForm)
	}
	for _, n := range []int{api.MaxConds + 1, api.MaxConds + 2, 2 * api.MaxConds, 256, 257, 10000} {
		isNone(t, list(n), api.ErrLong)
		isNone(t, "a/b "+list(n), api.ErrLong)
		// That they are too many comes ahead of what may not be: scopes, names.
		isNone(t, "A"+list(n), api.ErrLong)
		isNone(t, deepest+"/e"+list(n), api.ErrLong)
		isNone(t, list(n, "has X"), api.ErrLong)
		isNone(t, list(n, "X = 3"), api.ErrLong)
		isNone(t, list(n, tooLong+" = 3", "has y"), api.ErrLong)
		// What isn't so comes ahead of that, wherever it stands.
		for _, part := range []string{"", "has", "has x y", "x", "x >=", "x ~ 3", "x has 3", "x >= 03", `x = "`, `x = "` + strings.Repeat("z", api.MaxText+1) + `"`} {
			isNone(t, list(n, part), api.ErrForm)
			isNone(t, "A"+list(n, part, "has y"), api.ErrForm)
			isNone(t, strings.Replace(list(n), " x >= 3 ", part, 1), api.ErrForm)
		}
		isNone(t, strings.Replace(list(n), ":", "", 1), api.ErrForm)
	}
	// Those within quotes are none.
	isRead(t, `: x = "& has a & has b & has c & has d & e"`, of("", c("x", api.Eq, text("& has a & has b & has c & has d & e"))))
}

var (
	pieces = regexp.MustCompile(`(?s)\A(?:[^"&]|"(?:[^"\\]|\\.)*(?:"|\\?\z))*`)
	asked  = regexp.MustCompile(`(?s)\A *(?:has +([^ ]+)|([^ ]+) +(=|!=|<|<=|>|>=|\^) +([^ ].*?)) *\z`)
)

// told: what a text is, by the words in another form.
func told(s string) (api.Filter, api.Errno) {
	at := strings.IndexByte(s, ':')
	if at < 0 {
		return api.Filter{}, api.ErrForm
	}
	f := of(strings.Trim(s[:at], " "))
	for left := s[at+1:]; strings.Trim(s[at+1:], " ") != ""; {
		p := pieces.FindString(left)
		m := asked.FindStringSubmatch(p)
		if m == nil {
			return api.Filter{}, api.ErrForm
		}
		if m[1] != "" {
			f.Conds = append(f.Conds, has(m[1]))
		} else {
			v, ok := value.Read(m[4])
			if !ok {
				return api.Filter{}, api.ErrForm
			}
			f.Conds = append(f.Conds, c(m[2], slices.Index([]string{"=", "!=", "<", "<=", ">", ">=", "^"}, m[3]), v))
		}
		if len(p) == len(left) {
			break
		}
		left = left[len(p)+1:]
	}
	if len(f.Conds) > api.MaxConds {
		return api.Filter{}, api.ErrLong
	}
	if !filter.Right(f) {
		return api.Filter{}, api.ErrForm
	}
	return f, api.OK
}

// agrees: Filter tells of a text what its words tell.
func agrees(t *testing.T, s string) api.Errno {
	t.Helper()
	want, e := told(s)
	if e == api.OK {
		isRead(t, s, want)
	} else {
		isNone(t, s, e)
	}
	return e
}

// TestAll: by the words, over all short texts of some parts.
func TestAll(t *testing.T) {
	counts := map[api.Errno]int{}
	parts := []string{" ", ":", "&", "\"", "\\", "has", "x", "X", "=", ">=", "3"}
	texts := []string{""}
	for range 5 {
		var next []string
		for _, s := range texts {
			for _, p := range parts {
				next = append(next, s+p)
				counts[agrees(t, s+p)]++
				counts[agrees(t, ":x = "+s+p)]++
				counts[agrees(t, "a: has x&"+s+p+" & x >= \"&\"")]++
				counts[agrees(t, ":has x&has x&has x&has x&has x&"+s+p)]++
				counts[agrees(t, "has: has x&has x&has x&has x&has x&has x&"+s+p)]++
			}
		}
		texts = next
		if t.Failed() {
			return
		}
	}
	if counts[api.OK] < 1000 || counts[api.ErrForm] < 1000 || counts[api.ErrLong] < 1 || len(counts) != 3 {
		t.Error(counts)
	}
}

// TestNear: by the words, over texts of filters with a part of them taken out, doubled, or another byte in its place.
func TestNear(t *testing.T) {
	for i, s := range []string{
		`a/b: price >= 3.0 & has x`, `  a : x = "p & q"  &  y != "a\"&\\" `, `: has has & has = 3 & x < NaN & x ^ "" & yes = yes & no != no`, `:has a&has b&has c&has d&has e&x > 1&y <= -2`, `a::x = ":" & x = "` + "\u00e4\u00a0\xff" + `"`,
	} {
		for from := range s {
			for to := from; to <= len(s); to += 1 + (to-from)/3 {
				agrees(t, s[:from]+s[to:])
				agrees(t, s[:to]+s[from:])
				agrees(t, s[from:to])
			}
			for _, b := range []byte(" :&\"\\=!<>^hasx0./AZ\t\x00\x7f\x80\xff") {
				agrees(t, s[:from]+string([]byte{b})+s[from:])
				agrees(t, s[:from]+string([]byte{b})+s[from+1:])
			}
		}
		if t.Failed() {
			t.Fatal(i)
		}
	}
}

// values: such as are Canon.
func values() []api.Value {
	l := []api.Value{
		whole(0), whole(7), whole(-1), whole(math.MaxInt64), whole(math.MinInt64), num(0), num(3), num(-1.5), num(1e21), num(1e-7), num(5e-324), num(math.MaxFloat64), num(inf), num(-inf), num(nan), yes(true), yes(false),
		text(""), text(" "), text("  a  "), text("yes"), text("3"), text("NaN"), text("has x"), text("a: has x & y = \"z\""), text(strings.Repeat("&", api.MaxText)), text(strings.Repeat("\"", api.MaxText)), text(strings.Repeat("\\", api.MaxText)), text(strings.Repeat("\\", api.MaxText-1)), text(strings.Repeat("\xff", api.MaxText)), text("\u00e4\ufffd\u2028\u65e5\U0001f600"),
	}
	for b := range 256 {
		l = append(l, text(string([]byte{byte(b)})), text(string([]byte{'\\', byte(b), '"', '&'})), text(string([]byte{'&', byte(b), byte(b)})))
	}
	return l
}

// TestBack: P8.2: the text of a filter that is Right, and Canon, is read as it.
func TestBack(t *testing.T) {
	scopes := []string{"", "a", "has", "a/b", "x1/y2/z3", deepest, longest + "/" + longest}
	names := []string{"x", "has", "yes", "no", "e1", "x0", longest}
	var conds []api.Cond
	for i, v := range values() {
		for op := range api.Has {
			conds = append(conds, c(names[(i+op)%len(names)], op, v))
		}
		conds = append(conds, has(names[i%len(names)]))
	}
	back := func(f api.Filter) {
		t.Helper()
		for _, g := range []api.Filter{f, filter.Norm(f)} {
			if !filter.Right(g) || slices.ContainsFunc(g.Conds, func(a api.Cond) bool { return !alike(a, cond.Canon(a)) }) {
				t.Errorf("%q isn't to be read", filter.Print(g))
			}
			isRead(t, filter.Print(g), g)
			isRead(t, filter.Key(g), filter.Norm(g))
			if len(g.Conds) > 0 {
				isNone(t, filter.Print(g)+" &", api.ErrForm)
			}
		}
	}
	for _, s := range scopes {
		back(of(s))
	}
	for i, a := range conds {
		back(of(scopes[i%len(scopes)], a))
		var l []api.Cond
		for n := range api.MaxConds {
			l = append(l, conds[(i*(n+3)+n*n*5)%len(conds)])
			back(of(scopes[(i+n)%len(scopes)], l...))
		}
		isNone(t, filter.Print(of("a", append(l, a)...)), api.ErrLong)
	}
}

// TestNotCanon: the text of one that isn't Canon is read as one that is.
func TestNotCanon(t *testing.T) {
	for _, k := range []struct{ a, want api.Cond }{
		{c("x", api.Has, text("q")), has("x")}, {c("x", api.Le, num(math.Copysign(0, -1))), c("x", api.Le, num(0))}, {c("x", api.Eq, api.Value{Kind: api.Int, Int: 3, Num: 1, Text: "z", Yes: true}), c("x", api.Eq, whole(3))}, {c("x", api.Eq, num(math.Float64frombits(0xfff0000000000001))), c("x", api.Eq, num(nan))},
	} {
		isRead(t, filter.Print(of("a", k.a, has("y"))), of("a", k.want, has("y")))
	}
}

// TestApart: what is answered is new each time.
func TestApart(t *testing.T) {
	const s = "a: x > 3 & has y"
	want := of("a", c("x", api.Gt, whole(3)), has("y"))
	f, _ := parse.Filter(s)
	f.Conds[0], f.Conds[1] = has("z"), has("z")
	_ = append(f.Conds, has("z"))
	isRead(t, s, want)
	g, _ := parse.Filter(s)
	isNone(t, "a: x > 3 & has", api.ErrForm)
	if !same(g, want) {
		t.Errorf("%q became %q", s, filter.Print(g))
	}
}
