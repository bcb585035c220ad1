package value_test

import (
	"errors"
	"math"
	"math/rand"
	"strings"
	"testing"

	"gazette/api"
	"gazette/value"
)

var (
	minus = math.Copysign(0, -1)
	inf   = math.Inf(1)
	nan   = math.NaN()
	other = math.Float64frombits(0xfff0000000000001) // a NaN of other bits
)

// strange: Kinds that are none.
var strange = []int{4, 5, -1, -2, 1000, math.MaxInt, math.MinInt}

func whole(n int64) api.Value     { return api.Value{Kind: api.Int, Int: n} }
func num(x float64) api.Value     { return api.Value{Kind: api.Num, Num: x} }
func text(s string) api.Value     { return api.Value{Kind: api.Text, Text: s} }
func yes(b bool) api.Value        { return api.Value{Kind: api.Bool, Yes: b} }
func odd(k int, b bool) api.Value { return api.Value{Kind: k, Yes: b} }

// alike: laid alike, all fields, signs of noughts and NaNs' bits and all: == doesn't tell these.
func alike(a, b api.Value) bool {
	return a.Kind == b.Kind && a.Int == b.Int && math.Float64bits(a.Num) == math.Float64bits(b.Num) && a.Text == b.Text && a.Yes == b.Yes
}

// kept: like alike, but any NaN that is kept will do (the document doesn't say which one).
func kept(a, b api.Value) bool {
	if math.IsNaN(a.Num) && math.IsNaN(b.Num) {
		a.Num, b.Num = 0, 0
	}
	return alike(a, b)
}

// rising: of each Kind, values that rise, and their texts, written out by hand.
var rising = [][]struct {
	v api.Value
	s string
}{
	{
		{whole(math.MinInt64), "-9223372036854775808"}, {whole(math.MinInt64 + 1), "-9223372036854775807"}, {whole(-10), "-10"}, {whole(-7), "-7"}, {whole(-1), "-1"},
		{whole(0), "0"}, {whole(1), "1"}, {whole(9), "9"}, {whole(10), "10"}, {whole(1 << 53), "9007199254740992"}, {whole(1<<53 + 1), "9007199254740993"}, {whole(math.MaxInt64), "9223372036854775807"},
	}, {
		{num(math.Inf(-1)), "-Inf"}, {num(-math.MaxFloat64), "-1.7976931348623157e+308"}, {num(-1e21), "-1e+21"}, {num(-2.5), "-2.5"}, {num(-1), "-1.0"}, {num(-5e-324), "-5e-324"},
		{num(0), "0.0"}, {num(5e-324), "5e-324"}, {num(1e-5), "1e-05"}, {num(0.0001), "0.0001"}, {num(0.1), "0.1"}, {num(1), "1.0"}, {num(3), "3.0"}, {num(100), "100.0"}, {num(123456), "123456.0"}, {num(1e6), "1e+06"},
		{num(1234567), "1.234567e+06"}, {num(1e21), "1e+21"}, {num(math.MaxFloat64), "1.7976931348623157e+308"}, {num(inf), "+Inf"},
	}, {
		{text(""), `""`}, {text("\x00"), `"\x00"`}, {text("\a\b\t\n\v\f\r"), `"\a\b\t\n\v\f\r"`}, {text(" "), `" "`}, {text("\""), `"\""`}, {text("'"), `"'"`}, {text("3"), `"3"`}, {text("A"), `"A"`}, {text("\\"), `"\\"`}, {text("\\n"), `"\\n"`}, {text("`"), "\"`\""},
		{text("a"), `"a"`}, {text("a\"b"), `"a\"b"`}, {text("aa"), `"aa"`}, {text("ab"), `"ab"`}, {text("b"), `"b"`}, {text("yes"), `"yes"`}, {text("\x7f"), `"\x7f"`}, {text("\x80"), `"\x80"`}, {text("\u00a0"), `"\u00a0"`}, {text("\u00e4"), "\"\u00e4\""}, {text("\xe2\x82"), `"\xe2\x82"`},
		{text("\u20ac"), "\"\u20ac\""}, {text("\ufffd"), "\"\ufffd\""}, {text("\U0001f600"), "\"\U0001f600\""}, {text("\U0010ffff"), `"\U0010ffff"`}, {text("\xff"), `"\xff"`}, {text("\xff\xfe"), `"\xff\xfe"`},
	}, {
		{yes(false), "no"}, {yes(true), "yes"},
	},
}

// values: those of rising and, beside them, such as are not kept so, are not Right, or are of no Kind; all fields filled in some.
func values() []api.Value {
	l := []api.Value{
		num(minus), num(nan), num(other), text(strings.Repeat("x", 40)), text(strings.Repeat("x", 41)),
		{}, {Kind: api.Int, Num: nan}, {Kind: api.Text, Num: nan}, {Kind: api.Bool, Num: nan}, {Kind: 4, Num: nan},
	}
	for _, r := range rising {
		for _, c := range r {
			l = append(l, c.v)
		}
	}
	for _, k := range append([]int{0, 1, 2, 3}, strange...) {
		l = append(l, odd(k, false), odd(k, true))
		l = append(l, api.Value{Kind: k, Int: -5, Num: 2.5, Text: "a", Yes: true}, api.Value{Kind: k, Int: 6, Num: minus, Text: "b"})
	}
	return l
}

func TestOf(t *testing.T) {
	long := strings.Repeat("x", 41)
	for _, c := range []struct {
		x any
		v api.Value
	}{
		{0, whole(0)}, {3, whole(3)}, {-7, whole(-7)}, {math.MaxInt, whole(math.MaxInt)}, {math.MinInt, whole(math.MinInt)},
		{int64(3), whole(3)}, {int64(math.MaxInt64), whole(math.MaxInt64)}, {int64(math.MinInt64), whole(math.MinInt64)},
		{0.0, num(0)}, {3.0, num(3)}, {-2.5, num(-2.5)}, {minus, num(0)}, {inf, num(inf)}, {-inf, num(-inf)}, {5e-324, num(5e-324)},
		{"", text("")}, {"a\"b", text("a\"b")}, {"\xff\x00", text("\xff\x00")}, {long[1:], text(long[1:])}, {long, text(long)}, {"yes", text("yes")},
		{true, yes(true)}, {false, yes(false)},
	} {
		if v, ok := value.Of(c.x); !ok || !alike(v, c.v) {
			t.Errorf("Of(%#v) = %#v, %v", c.x, v, ok)
		}
	}
	a, aok := value.Of(nan)
	b, bok := value.Of(other)
	if !aok || !bok || !alike(a, b) || !kept(a, num(nan)) {
		t.Errorf("Of NaNs: %#v, %v, %#v, %v", a, aok, b, bok)
	}
}

func TestOfOthers(t *testing.T) {
	type myInt int
	type myNum float64
	type myText string
	type myBool bool
	n, s := 3, "a"
	for _, x := range []any{
		nil, int8(1), int16(1), int32(1), uint(1), uint8(1), uint16(1), uint32(1), uint64(1), uintptr(1), float32(1), complex64(1), complex(1, 0), 'a',
		[]byte("a"), []rune{1}, []int{1}, [1]int{1}, map[string]int{}, struct{}{}, api.Value{Kind: api.Int, Int: 3}, api.OK, errors.New("a"), func() {}, make(chan int),
		&n, &s, (*int)(nil), error(nil), myInt(1), myNum(1), myText("a"), myBool(true),
	} {
		if v, ok := value.Of(x); ok || !alike(v, api.Value{}) {
			t.Errorf("Of(%T) = %#v, %v", x, v, ok)
		}
	}
}

func TestCanon(t *testing.T) {
	full := api.Value{Int: -5, Num: 2.5, Text: "a\xff", Yes: true}
	for k, want := range []api.Value{whole(-5), num(2.5), text("a\xff"), yes(true)} {
		full.Kind = k
		if v := value.Canon(full); !alike(v, want) {
			t.Errorf("Canon(%#v) = %#v", full, v)
		}
		if v := value.Canon(want); !alike(v, want) {
			t.Errorf("Canon(%#v) = %#v", want, v)
		}
	}
	for _, k := range strange {
		full.Kind = k
		if v := value.Canon(full); !alike(v, api.Value{}) {
			t.Errorf("Canon(%#v) = %#v", full, v)
		}
	}
	long := strings.Repeat("x", 41)
	if v := value.Canon(text(long)); !alike(v, text(long)) {
		t.Errorf("Canon of 41 bytes: %#v", v)
	}
	if v := value.Canon(num(minus)); !alike(v, num(0)) {
		t.Errorf("Canon of the nought with a sign: %#v", v)
	}
	if a, b := value.Canon(num(nan)), value.Canon(num(other)); !alike(a, b) || !kept(a, num(nan)) {
		t.Errorf("Canon of NaNs: %#v, %#v", a, b)
	}
}

func TestRight(t *testing.T) {
	for _, r := range rising {
		for _, c := range r {
			if !value.Right(c.v) {
				t.Errorf("Right(%#v): false", c.v)
			}
		}
	}
	for _, c := range []struct {
		v  api.Value
		ok bool
	}{
		{api.Value{}, true}, {num(nan), true}, {num(minus), true}, {num(-inf), true}, {api.Value{Kind: api.Bool, Int: 1, Num: nan, Text: "a"}, true},
		{text(strings.Repeat("x", 39)), true}, {text(strings.Repeat("x", 40)), true}, {text(strings.Repeat("x", 41)), false}, {text(strings.Repeat("x", 4000)), false},
		{text(strings.Repeat("\u00e4", 20)), true}, {text(strings.Repeat("\u00e4", 20) + "x"), false}, {text(strings.Repeat("\u00e4", 40)), false}, {text(strings.Repeat("\xff", 40)), true}, {text(strings.Repeat("\xff", 41)), false},
	} {
		if value.Right(c.v) != c.ok {
			t.Errorf("Right(%#v): %v", c.v, !c.ok)
		}
	}
	for _, k := range strange {
		if value.Right(odd(k, true)) || value.Right(odd(k, false)) {
			t.Errorf("Right of Kind %d", k)
		}
	}
}

// TestRightOfAnyKind: the words ask that of its Text, whatever its Kind.
func TestRightOfAnyKind(t *testing.T) {
	for k := api.Int; k <= api.Bool; k++ {
		if !value.Right(api.Value{Kind: k, Text: strings.Repeat("x", 40)}) {
			t.Errorf("Right of Kind %d, 40 bytes: false", k)
		}
		if value.Right(api.Value{Kind: k, Text: strings.Repeat("x", 41)}) {
			t.Errorf("Right of Kind %d, 41 bytes: true", k)
		}
	}
}

func TestSame(t *testing.T) {
	for i, r := range rising {
		for j, a := range r {
			for k, q := range rising {
				for l, b := range q {
					if value.Same(a.v, b.v) != (i == k && j == l) {
						t.Errorf("Same(%#v, %#v)", a.v, b.v)
					}
				}
			}
		}
	}
	for _, c := range []struct{ a, b api.Value }{
		{num(minus), num(0)}, {num(nan), num(nan)}, {num(nan), num(other)},
		{api.Value{Kind: api.Int, Int: 3, Num: 1, Text: "a", Yes: true}, whole(3)}, {api.Value{Kind: api.Num, Int: 3, Num: 1, Text: "a", Yes: true}, num(1)},
		{api.Value{Kind: api.Text, Int: 3, Num: 1, Text: "a", Yes: true}, text("a")}, {api.Value{Kind: api.Bool, Int: 3, Num: 1, Text: "a", Yes: true}, yes(true)},
		{api.Value{Kind: 4, Int: 3, Num: 1, Text: "a", Yes: true}, odd(4, true)},
	} {
		if !value.Same(c.a, c.b) || !value.Same(c.b, c.a) {
			t.Errorf("Same(%#v, %#v): false", c.a, c.b)
		}
	}
	for _, x := range []float64{0, 1, inf, -inf} {
		if value.Same(num(x), num(nan)) || value.Same(num(nan), num(x)) {
			t.Errorf("Same of %v and a NaN", x)
		}
	}
}

// TestSameOfNoKind: of other Kinds Yes counts, and the Kind itself.
func TestSameOfNoKind(t *testing.T) {
	for _, k := range strange {
		for _, l := range append([]int{api.Int, api.Bool}, strange...) {
			for _, a := range []bool{false, true} {
				for _, b := range []bool{false, true} {
					if value.Same(odd(k, a), odd(l, b)) != (k == l && a == b) {
						t.Errorf("Same of Kinds %d and %d, %v and %v", k, l, a, b)
					}
				}
			}
		}
	}
}

func TestVoid(t *testing.T) {
	if !value.Void(num(nan)) || !value.Void(num(other)) || !value.Void(api.Value{Kind: api.Num, Int: 1, Num: nan, Text: "a", Yes: true}) {
		t.Error("Void of a NaN: false")
	}
	for _, v := range values() {
		if want := v.Kind == 1 && math.IsNaN(v.Num); value.Void(v) != want {
			t.Errorf("Void(%#v): %v", v, !want)
		}
	}
}

// sign: of how i and j stand.
func sign(i, j int) int {
	if i < j {
		return -1
	}
	if i > j {
		return 1
	}
	return 0
}

func TestCompare(t *testing.T) {
	for i, r := range rising {
		for j, a := range r {
			for k, q := range rising {
				for l, b := range q {
					n, ok := value.Compare(a.v, b.v)
					if want := i == k; ok != want || ok && n != sign(j, l) || !ok && n != 0 {
						t.Errorf("Compare(%#v, %#v) = %d, %v", a.v, b.v, n, ok)
					}
				}
			}
		}
	}
	for _, c := range []struct{ a, b api.Value }{
		{num(minus), num(0)}, {num(minus), num(minus)},
		{api.Value{Kind: api.Int, Int: 3, Num: nan, Text: "a", Yes: true}, whole(3)}, {api.Value{Kind: api.Text, Num: nan, Text: "a"}, text("a")},
		{api.Value{Kind: api.Bool, Int: 3, Num: nan, Text: "a", Yes: true}, yes(true)}, {api.Value{Kind: api.Num, Int: 3, Num: 1, Text: "a", Yes: true}, num(1)},
	} {
		if n, ok := value.Compare(c.a, c.b); !ok || n != 0 {
			t.Errorf("Compare(%#v, %#v) = %d, %v", c.a, c.b, n, ok)
		}
		if n, ok := value.Compare(c.b, c.a); !ok || n != 0 {
			t.Errorf("Compare(%#v, %#v) = %d, %v", c.b, c.a, n, ok)
		}
	}
	if n, ok := value.Compare(num(minus), num(-5e-324)); !ok || n != 1 {
		t.Errorf("Compare of the nought with a sign and what is below it: %d, %v", n, ok)
	}
}

func TestCompareVoid(t *testing.T) {
	for _, v := range values() {
		for _, x := range []float64{nan, other} {
			if n, ok := value.Compare(v, num(x)); ok || n != 0 {
				t.Errorf("Compare(%#v, NaN) = %d, %v", v, n, ok)
			}
			if n, ok := value.Compare(num(x), v); ok || n != 0 {
				t.Errorf("Compare(NaN, %#v) = %d, %v", v, n, ok)
			}
		}
	}
}

// TestCompareOfNoKind: other Kinds go by Yes; of two Kinds there is nothing.
func TestCompareOfNoKind(t *testing.T) {
	for _, k := range strange {
		for _, l := range append([]int{api.Int, api.Bool}, strange...) {
			for a, x := range []bool{false, true} {
				for b, y := range []bool{false, true} {
					n, ok := value.Compare(odd(k, x), odd(l, y))
					if ok != (k == l) || ok && n != sign(a, b) || !ok && n != 0 {
						t.Errorf("Compare of Kinds %d and %d, %v and %v: %d, %v", k, l, x, y, n, ok)
					}
				}
			}
		}
	}
	if n, ok := value.Compare(api.Value{Kind: 4, Int: 1, Num: nan, Text: "b"}, api.Value{Kind: 4, Text: "a"}); !ok || n != 0 {
		t.Errorf("Compare of Kind 4: %d, %v", n, ok)
	}
}

func TestPrint(t *testing.T) {
	for _, r := range rising {
		for _, c := range r {
			if s := value.Print(c.v); s != c.s {
				t.Errorf("Print(%#v) = %s, want %s", c.v, s, c.s)
			}
		}
	}
	for _, c := range []struct {
		v api.Value
		s string
	}{
		{num(minus), "0.0"}, {num(nan), "NaN"}, {num(other), "NaN"}, {text(strings.Repeat("x", 41)), `"` + strings.Repeat("x", 41) + `"`},
		{api.Value{Kind: api.Int, Int: -5, Num: 2.5, Text: "a", Yes: true}, "-5"}, {api.Value{Kind: api.Num, Int: -5, Num: 2.5, Text: "a", Yes: true}, "2.5"},
		{api.Value{Kind: api.Text, Int: -5, Num: 2.5, Text: "a", Yes: true}, `"a"`}, {api.Value{Kind: api.Bool, Int: -5, Num: 2.5, Text: "a"}, "no"},
	} {
		if s := value.Print(c.v); s != c.s {
			t.Errorf("Print(%#v) = %s, want %s", c.v, s, c.s)
		}
	}
	for _, k := range strange { // as Same and Compare do, by Yes
		if a, b := value.Print(odd(k, true)), value.Print(odd(k, false)); a != "yes" || b != "no" {
			t.Errorf("Print of Kind %d: %s, %s", k, a, b)
		}
	}
}

func TestRead(t *testing.T) {
	for _, r := range rising {
		for _, c := range r {
			if v, ok := value.Read(c.s); !ok || !alike(v, c.v) {
				t.Errorf("Read(%s) = %#v, %v", c.s, v, ok)
			}
		}
	}
	a, aok := value.Read("NaN")
	if !aok || !alike(a, value.Canon(num(nan))) {
		t.Errorf("Read of NaN: %#v, %v", a, aok)
	}
	for _, s := range []string{strings.Repeat("x", 40), strings.Repeat("\"", 40), strings.Repeat("\x01", 40), strings.Repeat("\xff", 40), strings.Repeat("\u00e4", 20), strings.Repeat("\u00a0", 20)} {
		if v, ok := value.Read(value.Print(text(s))); !ok || !alike(v, text(s)) {
			t.Errorf("Read back %q: %#v, %v", s, v, ok)
		}
	}
	if v, ok := value.Read(`"` + strings.Repeat(`\xff`, 40) + `"`); !ok || !alike(v, text(strings.Repeat("\xff", 40))) {
		t.Errorf("Read of 40 bytes that are no letters: %#v, %v", v, ok)
	}
}

func TestReadNothing(t *testing.T) {
	for _, s := range []string{
		"", " ", "x", "+", "-", ".", "\x00", "\xff", // no value's at all
		"+3", "03", "-03", "-0", "00", "--3", " 3", "3 ", "3\n", "1_000", "0x3", "0b1", "3-", "9223372036854775808", "-9223372036854775809", "99999999999999999999", "\u0663", // whole numbers written otherwise, or too great
		"3.", ".5", "3.00", "03.0", "+3.0", "-0.0", "0.00", "0.10", "1e6", "1e06", "1E+06", "1e+6", "1000000.0", "1e21", "1e+021", "1000000000000000000000.0", "0x1p-2", "1_0.0", " 3.0", "3.0 ", "3,0", "1e400", "1e+400", "-1e+400", "1e-400", "0.1000000000000000055", "5.0e-324", "4e-324", // numbers written otherwise
		"nan", "NAN", "+NaN", "-NaN", "NaN.0", "Inf", "inf", "+inf", "-inf", "+Infinity", "Infinity", "infinity", "+Inf.0",
		"Yes", "YES", "No", "NO", "y", "n", "true", "false", " yes", "yes ", "yes\n", "nono",
		`"`, `"a`, `a"`, `"a"b`, `"a" `, ` "a"`, `"a"b"`, `"a""b"`, `"\"`, `'a'`, "`a`", "``", `''`, // quotes that don't close, or are others
		`"\x61"`, `"\u0061"`, `"\141"`, `"\'"`, `"\q"`, `"\x0"`, `"\x0A"`, `"\x0a"`, `"\xFF"`, `"\u00e4"`, `"\U000000e4"`, `"\xc3\xa4"`, `"\u0000"`, `"\ud800"`, "\"\n\"", "\"\t\"", "\"\xff\"", "\"\\\xff\"", "\"\u00a0\"", "\"\x7f\"", // texts written otherwise than strconv.Quote does
		`"` + strings.Repeat("x", 41) + `"`, `"` + strings.Repeat("\u00e4", 21) + `"`, `"` + strings.Repeat(`\xff`, 41) + `"`, `"` + strings.Repeat("x", 4000) + `"`, // texts that are too long
		strings.Repeat("9", 5000), "0." + strings.Repeat("1", 5000), strings.Repeat(`"`, 5000), strings.Repeat(`\`, 5000),
	} {
		if v, ok := value.Read(s); ok || !alike(v, api.Value{}) {
			t.Errorf("Read(%q) = %#v, %v", s, v, ok)
		}
	}
}

// letters: of which the texts that values have, and such as are near to them, are put together.
const letters = "0123456789+-.eEINaf_x\"\\nyos \x00\xff\xc3\xa4"

// TestReadOfAnyText: where there is an answer, it is the one whose Print that is; where there is none, it is zero.
func TestReadOfAnyText(t *testing.T) {
	r := rand.New(rand.NewSource(1))
	for range 200000 {
		b := make([]byte, r.Intn(8))
		for i := range b {
			b[i] = letters[r.Intn(len(letters))]
		}
		s := string(b)
		if r.Intn(2) == 0 {
			s = `"` + s + `"`
		}
		v, ok := value.Read(s)
		if !ok && !alike(v, api.Value{}) {
			t.Errorf("Read(%q) = %#v, false", s, v)
		}
		if ok && (value.Print(v) != s || !value.Right(v) || !alike(value.Canon(v), v)) {
			t.Errorf("Read(%q) = %#v", s, v)
		}
	}
}

// TestThereAndBack: each value that is Right is read back from its text as it is kept; one that isn't is never read.
func TestThereAndBack(t *testing.T) {
	l := values()
	r := rand.New(rand.NewSource(2))
	for range 20000 {
		b := make([]byte, r.Intn(42))
		for i := range b {
			b[i] = byte(r.Uint32())
		}
		l = append(l, whole(int64(r.Uint64())), num(math.Float64frombits(r.Uint64())), num(r.NormFloat64()), num(float64(r.Intn(1e7))), text(string(b)), text(string([]rune{r.Int31(), r.Int31n(0x3000)})))
	}
	for _, v := range l {
		w, ok := value.Read(value.Print(v))
		if value.Right(v) && (!ok || !alike(w, value.Canon(v)) || !value.Same(v, w)) {
			t.Errorf("Read(Print(%#v)) = %#v, %v", v, w, ok)
		}
		if v.Kind == api.Text && len(v.Text) > 40 && (ok || !alike(w, api.Value{})) {
			t.Errorf("Read(Print(%#v)) = %#v, %v", v, w, ok)
		}
	}
}
