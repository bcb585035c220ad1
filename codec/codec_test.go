package codec_test

import (
	"bytes"
	"errors"
	"fmt"
	"math"
	"math/rand"
	"runtime"
	"slices"
	"strings"
	"testing"

	"gazette/api"
	"gazette/codec"
	"gazette/event"
	"gazette/order"
	"gazette/value"
)

var (
	minus = math.Copysign(0, -1)
	inf   = math.Inf(1)
	nan   = math.NaN()
	other = math.Float64frombits(0xfff0000000000001) // a NaN of other bits
)

func whole(n int64) api.Value { return api.Value{Kind: api.Int, Int: n} }
func num(x float64) api.Value { return api.Value{Kind: api.Num, Num: x} }
func text(s string) api.Value { return api.Value{Kind: api.Text, Text: s} }
func yes(b bool) api.Value    { return api.Value{Kind: api.Bool, Yes: b} }

func attr(name string, v api.Value) api.Attr { return api.Attr{Name: name, Value: v} }

func cond(name string, op int, v api.Value) api.Cond {
	return api.Cond{Name: name, Op: op, Value: v}
}

// made: an event as it stands.
func made(scope string, l ...api.Attr) api.Event { return api.Event{Scope: scope, Attrs: l} }

func filter(scope string, l ...api.Cond) api.Filter { return api.Filter{Scope: scope, Conds: l} }

// alike: laid alike, signs of noughts and all (== doesn't tell these); any NaN is like any other.
func alike(a, b api.Value) bool {
	num := math.Float64bits(a.Num) == math.Float64bits(b.Num) || math.IsNaN(a.Num) && math.IsNaN(b.Num)
	return num && a.Kind == b.Kind && a.Int == b.Int && a.Text == b.Text && a.Yes == b.Yes
}

func alikeAttr(a, b api.Attr) bool { return a.Name == b.Name && alike(a.Value, b.Value) }

func alikeEvent(a, b api.Event) bool {
	return a.Scope == b.Scope && slices.EqualFunc(a.Attrs, b.Attrs, alikeAttr)
}

func alikeCond(a, b api.Cond) bool {
	return a.Name == b.Name && a.Op == b.Op && alike(a.Value, b.Value)
}

func alikeFilter(a, b api.Filter) bool {
	return a.Scope == b.Scope && slices.EqualFunc(a.Conds, b.Conds, alikeCond)
}

// x: so many bytes of a text.
func x(n int) string { return strings.Repeat("x", n) }

// hex: bytes written out by hand, blanks between them as one likes.
func hex(l ...string) []byte {
	var b []byte
	for _, s := range l {
		s = strings.ReplaceAll(s, " ", "")
		for i := 0; i < len(s); i += 2 {
			var c byte
			if _, err := fmt.Sscanf(s[i:i+2], "%02x", &c); err != nil {
				panic(err)
			}
			b = append(b, c)
		}
	}
	return b
}

// lay: what calls of a new Writer lay.
func lay(call func(w *codec.Writer)) []byte {
	var w codec.Writer
	call(&w)
	return w.Bytes()
}

// texts: each with its bytes.
var texts = []struct {
	s string
	b []byte
}{
	{"", hex("00")}, {"a", hex("01 61")}, {"a/b", hex("03 61 2f 62")}, {"\x00", hex("01 00")}, {"\xff\xfe", hex("02 ff fe")}, {"\u00e4", hex("02 c3 a4")}, {"\u20ac\n", hex("04 e2 82 ac 0a")},
	{x(40), append(hex("28"), x(40)...)}, {x(41), append(hex("29"), x(41)...)}, {x(254), append(hex("fe"), x(254)...)}, {x(255), append(hex("ff"), x(255)...)},
}

// values: such as are kept as they are, each with its bytes.
var values = []struct {
	v api.Value
	b []byte
}{
	{whole(0), hex("00 0000000000000000")}, {whole(1), hex("00 0000000000000001")}, {whole(-1), hex("00 ffffffffffffffff")}, {whole(258), hex("00 0000000000000102")}, {whole(-2), hex("00 fffffffffffffffe")},
	{whole(0x0123456789abcdef), hex("00 0123456789abcdef")}, {whole(math.MaxInt64), hex("00 7fffffffffffffff")}, {whole(math.MinInt64), hex("00 8000000000000000")},
	{num(0), hex("01 8000000000000000")}, {num(1), hex("01 bff0000000000000")}, {num(1.5), hex("01 bff8000000000000")}, {num(-1), hex("01 400fffffffffffff")}, {num(-1.5), hex("01 4007ffffffffffff")},
	{num(math.SmallestNonzeroFloat64), hex("01 8000000000000001")}, {num(-math.SmallestNonzeroFloat64), hex("01 7ffffffffffffffe")}, {num(math.MaxFloat64), hex("01 ffefffffffffffff")},
	{num(inf), hex("01 fff0000000000000")}, {num(-inf), hex("01 000fffffffffffff")}, {num(nan), hex("01 ffffffffffffffff")},
	{text(""), hex("02 00")}, {text("a"), hex("02 01 61")}, {text("\xff\x00"), hex("02 02 ff 00")}, {text(x(39)), append(hex("02 27"), x(39)...)}, {text(x(40)), append(hex("02 28"), x(40)...)},
	{yes(false), hex("03 00")}, {yes(true), hex("03 01")},
}

// strangeValues: such as bytes tell, though they aren't kept so, or aren't Right; each with its bytes.
var strangeValues = []struct {
	v api.Value
	b []byte
}{
	{num(minus), hex("01 8000000000000000")}, {num(other), hex("01 ffffffffffffffff")}, {text(x(41)), append(hex("02 29"), x(41)...)}, {text(x(255)), append(hex("02 ff"), x(255)...)},
	{api.Value{Kind: api.Int, Int: 1, Num: 2, Text: x(300), Yes: true}, hex("00 0000000000000001")}, {api.Value{Kind: api.Num, Int: 1, Num: 1, Text: x(41), Yes: true}, hex("01 bff0000000000000")},
	{api.Value{Kind: api.Text, Int: 1, Num: nan, Text: "a", Yes: true}, hex("02 01 61")}, {api.Value{Kind: api.Bool, Int: 1, Num: nan, Text: "a"}, hex("03 00")}, {api.Value{Kind: api.Bool, Num: 1, Text: "a", Yes: true}, hex("03 01")},
}

// untoldValues: such as no bytes tell.
var untoldValues = []api.Value{
	{Kind: 4}, {Kind: -1}, {Kind: 255, Int: 1}, {Kind: 256}, {Kind: 257, Num: 1}, {Kind: 258, Text: "a"}, {Kind: 259, Yes: true}, {Kind: math.MaxInt}, {Kind: math.MinInt}, text(x(256)), text(x(512)), text(x(1000)),
}

// many: attributes of so many names, rising.
func many(n int) []api.Attr {
	var l []api.Attr
	for i := range n {
		l = append(l, attr("n"+string(rune('a'+i)), yes(i%2 == 1)))
	}
	return l
}

// events: such as are Right, each with its bytes.
var events = []struct {
	e api.Event
	b []byte
}{
	{made(""), hex("00 00")}, {made("a"), hex("01 61 00")}, {made("a/b"), hex("03 61 2f 62 00")}, {made("A //\xff"), hex("05 41 20 2f 2f ff 00")}, {made(x(255)), append(append(hex("ff"), x(255)...), 0)},
	{made("a", attr("x", num(1.5)), attr("y", yes(true))), hex("01 61 02", "01 78 01 bff8000000000000", "01 79 03 01")},
	{made("", attr("abcdefghijkl", whole(-7))), hex("00 01 0c 6162636465666768696a6b6c 00 fffffffffffffff9")},
	{made("a", attr("a", num(nan)), attr("a1", text("\"")), attr("aa", num(0)), attr("b", whole(1))), hex("01 61 04", "01 61 01 ffffffffffffffff", "02 61 31 02 01 22", "02 61 61 01 8000000000000000", "01 62 00 0000000000000001")},
	{made("a", many(8)...), hex("01 61 08", "02 6e 61 03 00", "02 6e 62 03 01", "02 6e 63 03 00", "02 6e 64 03 01", "02 6e 65 03 00", "02 6e 66 03 01", "02 6e 67 03 00", "02 6e 68 03 01")},
}

// filters: any at all, each with its bytes.
var filters = []struct {
	f api.Filter
	b []byte
}{
	{filter(""), hex("00 00")}, {filter("a/b"), hex("03 61 2f 62 00")}, {filter("A //\xff"), hex("05 41 20 2f 2f ff 00")}, {filter(x(255)), append(append(hex("ff"), x(255)...), 0)},
	{filter("a", cond("price", api.Ge, num(1.5))), hex("01 61 01", "05 70 72 69 63 65 05 01 bff8000000000000")},
	{filter("", cond("x", api.Has, api.Value{}), cond("x", api.Prefix, text("p"))), hex("00 02", "01 78 07 00 0000000000000000", "01 78 06 02 01 70")},
	{filter("", cond("b", api.Eq, yes(true)), cond("a", api.Ne, whole(-1)), cond("b", api.Eq, yes(true))), hex("00 03", "01 62 00 03 01", "01 61 01 00 ffffffffffffffff", "01 62 00 03 01")},
	{filter("", cond("", 8, num(nan)), cond("A b", 255, num(-inf)), cond(x(255), 128, text(""))), append(append(hex("00 03", "00 08 01 ffffffffffffffff", "03 41 20 62 ff 01 000fffffffffffff", "ff"), x(255)...), hex("80 02 00")...)},
	{filter("", slices.Repeat([]api.Cond{cond("a", 2, yes(false))}, 255)...), append(hex("00 ff"), bytes.Repeat(hex("01 61 02 03 00"), 255)...)},
}

func TestWriteNothing(t *testing.T) {
	var w codec.Writer
	if b := w.Bytes(); len(b) != 0 {
		t.Errorf("of a Writer that was made by nobody: %x", b)
	}
	if b := lay(func(w *codec.Writer) { w.Byte() }); len(b) != 0 {
		t.Errorf("of no numbers: %x", b)
	}
}

func TestWriteByte(t *testing.T) {
	for i := range 256 {
		if b := lay(func(w *codec.Writer) { w.Byte(i) }); !bytes.Equal(b, []byte{byte(i)}) {
			t.Errorf("Byte(%d): %x", i, b)
		}
	}
	if b := lay(func(w *codec.Writer) { w.Byte(1, 255, 0, 1).Byte(7) }); !bytes.Equal(b, hex("01 ff 00 01 07")) {
		t.Errorf("of several: %x", b)
	}
}

func TestWriteLong(t *testing.T) {
	for _, c := range []struct {
		x uint64
		b []byte
	}{
		{0, hex("0000000000000000")}, {1, hex("0000000000000001")}, {255, hex("00000000000000ff")}, {256, hex("0000000000000100")}, {0x0123456789abcdef, hex("0123456789abcdef")}, {1 << 63, hex("8000000000000000")}, {math.MaxUint64, hex("ffffffffffffffff")}, {math.MaxUint64 - 1, hex("fffffffffffffffe")},
	} {
		if b := lay(func(w *codec.Writer) { w.Long(c.x) }); !bytes.Equal(b, c.b) {
			t.Errorf("Long(%x): %x", c.x, b)
		}
	}
}

func TestWriteThings(t *testing.T) {
	for _, c := range texts {
		if b := lay(func(w *codec.Writer) { w.Text(c.s) }); !bytes.Equal(b, c.b) {
			t.Errorf("Text(%q): %x", c.s, b)
		}
	}
	for _, c := range append(slices.Clone(values), strangeValues...) {
		if b := lay(func(w *codec.Writer) { w.Value(c.v) }); !bytes.Equal(b, c.b) {
			t.Errorf("Value(%#v): %x", c.v, b)
		}
		if b := lay(func(w *codec.Writer) { w.Event(made("", attr("a", c.v))) }); !bytes.Equal(b, append(hex("00 01 01 61"), c.b...)) {
			t.Errorf("Event with %#v: %x", c.v, b)
		}
		if b := lay(func(w *codec.Writer) { w.Filter(filter("", cond("a", 3, c.v))) }); !bytes.Equal(b, append(hex("00 01 01 61 03"), c.b...)) {
			t.Errorf("Filter with %#v: %x", c.v, b)
		}
	}
	for _, c := range events {
		if b := lay(func(w *codec.Writer) { w.Event(c.e) }); !bytes.Equal(b, c.b) {
			t.Errorf("Event(%#v): %x", c.e, b)
		}
		if b := codec.Event(c.e); !bytes.Equal(b, c.b) {
			t.Errorf("codec.Event(%#v): %x", c.e, b)
		}
	}
	for _, c := range filters {
		if b := lay(func(w *codec.Writer) { w.Filter(c.f) }); !bytes.Equal(b, c.b) {
			t.Errorf("Filter(%#v): %x", c.f, b)
		}
	}
}

// TestWriteUnrightEvent: bytes tell events that aren't Right, as they stand.
func TestWriteUnrightEvent(t *testing.T) {
	e := made("a", attr("b", yes(true)), attr("", yes(false)), attr("b", yes(true)))
	want := hex("01 61 03", "01 62 03 01", "00 03 00", "01 62 03 01")
	if b := lay(func(w *codec.Writer) { w.Event(e) }); !bytes.Equal(b, want) {
		t.Errorf("Event(%#v): %x", e, b)
	}
	e = made("", slices.Repeat([]api.Attr{attr(x(255), text(x(255)))}, 255)...)
	if b := lay(func(w *codec.Writer) { w.Event(e) }); len(b) != 2+255*(256+1+256) || b[1] != 255 {
		t.Errorf("of 255 attributes: %d bytes", len(b))
	}
}

// TestWriteBehind: calls lay behind one another, on one Writer, and each answers it.
func TestWriteBehind(t *testing.T) {
	w := new(codec.Writer)
	want := []byte{}
	step := func(name string, v *codec.Writer, b []byte) {
		want = append(want, b...)
		if v != w {
			t.Errorf("%s answers another Writer", name)
		}
		if !bytes.Equal(w.Bytes(), want) {
			t.Errorf("behind %s: %x, want %x", name, w.Bytes(), want)
		}
	}
	for range 3 {
		step("no Byte", w.Byte(), nil)
		step("Byte", w.Byte(3, 4), hex("03 04"))
		step("Long", w.Long(5), hex("0000000000000005"))
		step("Text", w.Text("ab"), hex("02 61 62"))
		for _, c := range values {
			step("Value", w.Value(c.v), c.b)
		}
		step("Event", w.Event(events[5].e), events[5].b)
		step("Filter", w.Filter(filters[5].f), filters[5].b)
		step("Text of 256", w.Text(x(256)), nil)
		step("Value of no Kind", w.Value(api.Value{Kind: 4}), nil)
		step("Event not told", w.Event(made(x(256))), nil)
		step("Filter not told", w.Filter(filter(x(256))), nil)
	}
}

// TestWriteUntold: of what bytes can't tell there are none, not even of a part.
func TestWriteUntold(t *testing.T) {
	look := func(what any, call func(w *codec.Writer)) {
		if b := lay(call); len(b) != 0 {
			t.Errorf("%T of %d bytes", what, len(b))
		}
		if b := lay(func(w *codec.Writer) { w.Byte(9); call(w); w.Byte(8) }); !bytes.Equal(b, hex("09 08")) {
			t.Errorf("%T between others: %d bytes", what, len(b))
		}
	}
	for _, n := range []int{-1, 256, 257, -255, -256, 511, 1000, math.MaxInt, math.MinInt} {
		look(n, func(w *codec.Writer) { w.Byte(n) })
		if b := lay(func(w *codec.Writer) { w.Byte(1, n, 2) }); !bytes.Equal(b, hex("01 02")) {
			t.Errorf("Byte of %d and others: %x", n, b)
		}
		look(filter(""), func(w *codec.Writer) { w.Filter(filter("a", cond("a", n, yes(true)))) })
	}
	for _, n := range []int{256, 257, 511, 512, 70000} {
		look(n, func(w *codec.Writer) { w.Text(x(n)) })
		look(made(""), func(w *codec.Writer) { w.Event(made(x(n))) })
		look(made(""), func(w *codec.Writer) { w.Event(made("a", attr("a", yes(true)), attr(x(n), yes(true)))) })
		look(made(""), func(w *codec.Writer) { w.Event(made("a", make([]api.Attr, n)...)) })
		look(filter(""), func(w *codec.Writer) { w.Filter(filter(x(n))) })
		look(filter(""), func(w *codec.Writer) { w.Filter(filter("a", cond("a", 0, yes(true)), cond(x(n), 0, yes(true)))) })
		look(filter(""), func(w *codec.Writer) { w.Filter(filter("a", make([]api.Cond, n)...)) })
		if b := codec.Event(made(x(n))); len(b) != 0 {
			t.Errorf("codec.Event in a scope of %d bytes: %x", n, b)
		}
	}
	for _, v := range untoldValues {
		look(v, func(w *codec.Writer) { w.Value(v) })
		look(made(""), func(w *codec.Writer) { w.Event(made("a", attr("a", yes(true)), attr("b", v))) })
		look(filter(""), func(w *codec.Writer) { w.Filter(filter("a", cond("a", 0, yes(true)), cond("b", 0, v))) })
	}
}

// TestBytesMemory: what is answered is new memory, each time.
func TestBytesMemory(t *testing.T) {
	w := new(codec.Writer).Byte(1, 2, 3)
	a, b := w.Bytes(), w.Bytes()
	a[0] = 9
	_ = append(a[:1], 9, 9, 9, 9)
	w.Byte(4)
	if !bytes.Equal(b, hex("01 02 03")) || !bytes.Equal(w.Bytes(), hex("01 02 03 04")) {
		t.Errorf("changed behind its back: %x, %x", b, w.Bytes())
	}
	w.Byte(5)
	_ = append(w.Bytes(), 7)
	if !bytes.Equal(w.Byte(6).Bytes(), hex("01 02 03 04 05 06")) {
		t.Errorf("changed behind its back: %x", w.Bytes())
	}
}

// reads: that bytes, and no fewer and no more of them, are read by a call; behind them others are left for the next one.
func reads(t *testing.T, name string, b []byte, call func(r *codec.Reader)) {
	t.Helper()
	before := slices.Clone(b)
	if !codec.Read(b, call) {
		t.Errorf("%s: %x isn't read", name, b)
	}
	for i := range b {
		if codec.Read(b[:i:i], call) || codec.Read(b[:i], call) {
			t.Errorf("%s: %d bytes of %x are read", name, i, b)
		}
	}
	for _, more := range []byte{0, 1, 255} {
		longer := append(slices.Clone(b), more)
		if codec.Read(longer, call) {
			t.Errorf("%s: %x is read, where something is left", name, longer)
		}
		next := -1
		if !codec.Read(longer, func(r *codec.Reader) { call(r); next = r.Byte() }) || next != int(more) {
			t.Errorf("%s: the next byte of %x: %d", name, longer, next)
		}
	}
	if !bytes.Equal(b, before) {
		t.Errorf("%s: bytes were changed: %x, %x", name, before, b)
	}
}

func TestReadByte(t *testing.T) {
	for i := range 256 {
		reads(t, "Byte", []byte{byte(i)}, func(r *codec.Reader) {
			if n := r.Byte(); n != i {
				t.Errorf("Byte of %d: %d", i, n)
			}
		})
	}
}

func TestReadLong(t *testing.T) {
	for _, c := range []struct {
		b []byte
		x uint64
	}{
		{hex("0000000000000000"), 0}, {hex("0000000000000001"), 1}, {hex("0123456789abcdef"), 0x0123456789abcdef}, {hex("8000000000000000"), 1 << 63}, {hex("ffffffffffffffff"), math.MaxUint64}, {hex("00000000ff000000"), 0xff000000},
	} {
		reads(t, "Long", c.b, func(r *codec.Reader) {
			if n := r.Long(); n != c.x {
				t.Errorf("Long of %x: %x", c.b, n)
			}
		})
	}
}

func TestReadThings(t *testing.T) {
	for _, c := range texts {
		reads(t, "Text", c.b, func(r *codec.Reader) {
			if s := r.Text(); s != c.s {
				t.Errorf("Text of %x: %q", c.b, s)
			}
		})
	}
	for _, c := range values {
		reads(t, "Value", c.b, func(r *codec.Reader) {
			if v := r.Value(); !alike(v, c.v) {
				t.Errorf("Value of %x: %#v", c.b, v)
			}
		})
	}
	for _, c := range events {
		reads(t, "Event", c.b, func(r *codec.Reader) {
			if e := r.Event(); !alikeEvent(e, c.e) {
				t.Errorf("Event of %x: %#v", c.b, e)
			}
		})
	}
	for _, c := range filters {
		reads(t, "Filter", c.b, func(r *codec.Reader) {
			if f := r.Filter(); !alikeFilter(f, c.f) {
				t.Errorf("Filter of %x: %#v", c.b, f)
			}
		})
	}
}

// TestReadCanon: a NaN is read as it is kept, and so is a nought.
func TestReadCanon(t *testing.T) {
	for _, x := range []float64{nan, other, 0, minus} {
		b := lay(func(w *codec.Writer) { w.Value(num(x)) })
		reads(t, "Value", b, func(r *codec.Reader) {
			if v := r.Value(); math.Float64bits(v.Num) != math.Float64bits(order.Canon(x)) {
				t.Errorf("Value of %x: bits %x", b, math.Float64bits(v.Num))
			}
		})
	}
}

// refuses: that a call gives up on bytes, whatever is behind them; what is called behind it is not reached.
func refuses(t *testing.T, name string, b []byte, call func(r *codec.Reader)) {
	t.Helper()
	for n := range 20 {
		on := false
		longer := append(slices.Clone(b), make([]byte, n)...)
		if codec.Read(longer, func(r *codec.Reader) { call(r); on = true }) || on {
			t.Errorf("%s: doesn't give up on %x", name, longer)
		}
	}
}

// badValues: bytes that are no value's, however many are behind them.
func badValues() [][]byte {
	var l [][]byte
	for k := 4; k < 256; k++ {
		l = append(l, []byte{byte(k), 0, 0, 0, 0, 0, 0, 0, 0})
	}
	for n := 2; n < 256; n++ {
		l = append(l, []byte{3, byte(n)})
	}
	for n := 41; n < 256; n++ {
		l = append(l, append([]byte{2, byte(n)}, x(n)...))
	}
	return append(l,
		hex("01 0000000000000000"), hex("01 0000000000000001"), hex("01 000ffffffffffffe"), // below that of -Inf
		hex("01 7fffffffffffffff"),                                                         // of the nought with a sign
		hex("01 fff0000000000001"), hex("01 fff8000000000000"), hex("01 fffffffffffffffe"), // above that of +Inf, but the highest one
	)
}

func TestReadNoValue(t *testing.T) {
	for _, b := range badValues() {
		refuses(t, "Value", b, func(r *codec.Reader) { r.Value() })
		refuses(t, "Event", append(hex("00 01 01 61"), b...), func(r *codec.Reader) { r.Event() })
		refuses(t, "Event", append(hex("00 02 01 61 03 00 01 62"), b...), func(r *codec.Reader) { r.Event() })
		refuses(t, "Filter", append(hex("00 01 01 61 00"), b...), func(r *codec.Reader) { r.Filter() })
		refuses(t, "Filter", append(hex("00 02 01 61 00 03 00 01 62 00"), b...), func(r *codec.Reader) { r.Filter() })
		if e, ok := codec.ReadEvent(append(hex("00 01 01 61"), b...)); ok || !alikeEvent(e, api.Event{}) {
			t.Errorf("ReadEvent with %x: %#v, %v", b, e, ok)
		}
	}
}

// TestReadRightValue: a value is read just where it is Right (value's Right).
func TestReadRightValue(t *testing.T) {
	for _, c := range append(slices.Clone(values), strangeValues...) {
		v := value.Canon(c.v)
		var got api.Value
		ok := codec.Read(c.b, func(r *codec.Reader) { got = r.Value() })
		if ok != value.Right(v) || ok && !alike(got, v) {
			t.Errorf("Value of %x: %#v, %v", c.b, got, ok)
		}
	}
}

// unright: events that bytes tell, but that aren't Right.
var unright = []api.Event{
	made("a", many(9)...), made("a", many(26)...), made("", make([]api.Attr, 9)...), made("", make([]api.Attr, 255)...),
	made("a", attr("b", yes(true)), attr("a", yes(true))), made("a", attr("a", yes(true)), attr("a", yes(true))), made("a", attr("a", yes(true)), attr("c", yes(true)), attr("b", yes(true))), made("a", attr("aa", yes(true)), attr("a1", yes(true))),
	made("a", attr("", yes(true))), made("a", attr("A", yes(true))), made("a", attr("1a", yes(true))), made("a", attr("a b", yes(true))), made("a", attr("abcdefghijklm", yes(true))), made("a", attr(x(255), yes(true))), made("a", attr("\u00e4", yes(true))), made("a", attr("a\x00", yes(true))),
	made("a", attr("a", yes(true)), attr("b-", yes(true))), made("a", attr("a", text(x(41)))), made("a", attr("a", text(x(255)))),
}

func TestReadUnrightEvent(t *testing.T) {
	for _, e := range unright {
		b := codec.Event(e)
		if len(b) == 0 {
			t.Fatalf("bytes don't tell %#v", e)
		}
		refuses(t, "Event", b, func(r *codec.Reader) { r.Event() })
		if f, ok := codec.ReadEvent(b); ok || !alikeEvent(f, api.Event{}) {
			t.Errorf("ReadEvent(%x) = %#v, %v", b, f, ok)
		}
	}
}

func TestReadEvent(t *testing.T) {
	for _, c := range events {
		if e, ok := codec.ReadEvent(c.b); !ok || !alikeEvent(e, c.e) || !event.Same(e, c.e) {
			t.Errorf("ReadEvent(%x) = %#v, %v", c.b, e, ok)
		}
		for i := range c.b {
			if e, ok := codec.ReadEvent(c.b[:i]); ok || !alikeEvent(e, api.Event{}) {
				t.Errorf("ReadEvent of %d bytes of %x: %#v, %v", i, c.b, e, ok)
			}
		}
		if e, ok := codec.ReadEvent(append(slices.Clone(c.b), 0)); ok || !alikeEvent(e, api.Event{}) {
			t.Errorf("ReadEvent of one byte more than %x: %#v, %v", c.b, e, ok)
		}
	}
	for _, b := range [][]byte{nil, {}, {0}, {1}, {255}, {0, 1}, {0, 255}, {1, 97}, {0, 0, 0}} {
		if e, ok := codec.ReadEvent(b); ok || !alikeEvent(e, api.Event{}) {
			t.Errorf("ReadEvent(%x) = %#v, %v", b, e, ok)
		}
	}
}

func TestRead(t *testing.T) {
	called := 0
	if !codec.Read(nil, func(*codec.Reader) { called++ }) || !codec.Read([]byte{}, func(*codec.Reader) { called++ }) || called != 2 {
		t.Errorf("of nothing nothing is read: %d calls", called)
	}
	if codec.Read([]byte{0}, func(*codec.Reader) { called++ }) || called != 3 {
		t.Errorf("something is left: %d calls", called)
	}
	if codec.Read(nil, nil) || codec.Read([]byte{0}, nil) {
		t.Error("no call comes to its end")
	}
	all := []func(r *codec.Reader){
		func(r *codec.Reader) { r.Byte() }, func(r *codec.Reader) { r.Long() }, func(r *codec.Reader) { r.Text() }, func(r *codec.Reader) { r.Value() }, func(r *codec.Reader) { r.Event() }, func(r *codec.Reader) { r.Filter() },
	}
	for i, call := range all {
		refuses := func(b []byte) {
			if on := false; codec.Read(b, func(r *codec.Reader) { call(r); on = true }) || on {
				t.Errorf("call %d doesn't give up on %x", i, b)
			}
		}
		refuses(nil)
		refuses([]byte{})
	}
}

// TestReadSequence: what was laid is read in its order, by one Reader.
func TestReadSequence(t *testing.T) {
	b := lay(func(w *codec.Writer) {
		w.Byte(7, 8).Long(9).Text("ten").Value(num(-2.5)).Event(events[5].e).Filter(filters[4].f).Byte(11)
	})
	reads(t, "all", b, func(r *codec.Reader) {
		if x, y, z, s := r.Byte(), r.Byte(), r.Long(), r.Text(); x != 7 || y != 8 || z != 9 || s != "ten" {
			t.Errorf("%d, %d, %d, %q", x, y, z, s)
		}
		if v, e, f, x := r.Value(), r.Event(), r.Filter(), r.Byte(); !alike(v, num(-2.5)) || !alikeEvent(e, events[5].e) || !alikeFilter(f, filters[4].f) || x != 11 {
			t.Errorf("%#v, %#v, %#v, %d", v, e, f, x)
		}
	})
}

// thrown: what is thrown out of a call.
func thrown(call func()) (x any) {
	defer func() { x = recover() }()
	call()
	return nil
}

func TestReadOtherPanic(t *testing.T) {
	err := errors.New("other")
	for _, want := range []any{"other", 3, err, api.ErrForm, struct{}{}, struct{ x int }{1}, 1.5} {
		for _, b := range [][]byte{nil, {1}, {1, 2}} {
			if x := thrown(func() { codec.Read(b, func(*codec.Reader) { panic(want) }) }); x != want {
				t.Errorf("thrown %#v, not %#v", x, want)
			}
		}
		if x := thrown(func() { codec.Read([]byte{1, 2}, func(r *codec.Reader) { r.Byte(); panic(want) }) }); x != want {
			t.Errorf("thrown behind a read: %#v, not %#v", x, want)
		}
		if x := thrown(func() {
			codec.Read([]byte{1}, func(r *codec.Reader) { codec.Read(nil, func(*codec.Reader) { panic(want) }) })
		}); x != want {
			t.Errorf("thrown out of two: %#v, not %#v", x, want)
		}
	}
	var l []int
	if x, ok := thrown(func() { codec.Read(nil, func(r *codec.Reader) { _ = l[len(l)] }) }).(runtime.Error); !ok {
		t.Errorf("thrown by the language: %#v", x)
	}
	if x := thrown(func() { codec.Read(nil, func(r *codec.Reader) { panic(nil) }) }); x == nil {
		t.Error("a panic of nil doesn't go on")
	}
}

// TestReadPanicIsReplaced: behind a giving up that a call took back itself, a panic of another kind goes on as well.
func TestReadPanicIsReplaced(t *testing.T) {
	x := thrown(func() {
		codec.Read([]byte{1}, func(r *codec.Reader) {
			defer func() {
				recover()
				panic("other")
			}()
			r.Long()
		})
	})
	if x != "other" {
		t.Errorf("thrown: %#v", x)
	}
}

// TestReadWithin: a Read within another one's call gives up alone.
func TestReadWithin(t *testing.T) {
	for _, inner := range [][]byte{nil, {1}, {0, 0}, {0}} {
		var ok bool
		var next int
		out := codec.Read([]byte{5, 6}, func(r *codec.Reader) {
			r.Byte()
			ok = codec.Read(inner, func(q *codec.Reader) { q.Text() })
			next = r.Byte()
		})
		if !out || next != 6 || ok != (len(inner) == 1 && inner[0] == 0) {
			t.Errorf("within: %v, %v, %d", out, ok, next)
		}
	}
	if codec.Read([]byte{5}, func(r *codec.Reader) { codec.Read([]byte{0}, func(q *codec.Reader) { q.Byte() }); r.Long() }) {
		t.Error("behind one that came to its end the other one doesn't give up")
	}
}

// TestReadMemory: what was read shares no memory with the bytes.
func TestReadMemory(t *testing.T) {
	b := codec.Event(made("abc", attr("name", text("text"))))
	e, _ := codec.ReadEvent(b)
	for i := range b {
		b[i] = 'z'
	}
	if event.Print(e) != `[abc] name="text"` {
		t.Errorf("changed behind its back: %s", event.Print(e))
	}
}

// TestWriteKeeps: what is handed in is not changed, and not kept.
func TestWriteKeeps(t *testing.T) {
	l := []int{3, 300, 4}
	attrs := []api.Attr{attr("b", num(minus)), attr("a", api.Value{Kind: api.Int, Text: "x"})}
	conds := []api.Cond{cond("b", 7, num(minus)), cond("a", 9, api.Value{Kind: api.Int, Text: "x"})}
	w := new(codec.Writer).Byte(l...).Event(made("a", attrs...)).Filter(filter("a", conds...))
	b := w.Bytes()
	if !slices.Equal(l, []int{3, 300, 4}) || !slices.EqualFunc(attrs, []api.Attr{attr("b", num(minus)), attr("a", api.Value{Text: "x"})}, alikeAttr) || !slices.EqualFunc(conds, []api.Cond{cond("b", 7, num(minus)), cond("a", 9, api.Value{Text: "x"})}, alikeCond) {
		t.Errorf("changed: %v, %#v, %#v", l, attrs, conds)
	}
	l[0], attrs[0], conds[0] = 5, api.Attr{}, api.Cond{}
	if !bytes.Equal(w.Bytes(), b) {
		t.Errorf("kept: %x, %x", b, w.Bytes())
	}
}

// someValue: any value that is Right, as it is kept.
func someValue(r *rand.Rand) api.Value {
	b := make([]byte, r.Intn(41))
	r.Read(b)
	return []api.Value{whole(int64(r.Uint64())), value.Canon(num(math.Float64frombits(r.Uint64()))), num(r.NormFloat64()), text(string(b)), yes(r.Intn(2) == 0)}[r.Intn(5)]
}

// someText: any text that bytes tell.
func someText(r *rand.Rand) string {
	b := make([]byte, r.Intn(256))
	r.Read(b)
	return string(b)
}

// TestThereAndBack: events that are Right, and any filters, come back from their bytes.
func TestThereAndBack(t *testing.T) {
	r := rand.New(rand.NewSource(1))
	for range 5000 {
		e, f := api.Event{Scope: someText(r)}, api.Filter{Scope: someText(r)}
		for range r.Intn(9) {
			e.Attrs = append(e.Attrs, attr("n"+string(rune('a'+r.Intn(26))), someValue(r)))
		}
		for range r.Intn(9) {
			f.Conds = append(f.Conds, cond(someText(r), r.Intn(256), someValue(r)))
		}
		e = event.New(e.Scope, e.Attrs...)
		if d, ok := codec.ReadEvent(codec.Event(e)); !ok || !alikeEvent(d, e) {
			t.Fatalf("there and back: %#v, %v, %#v", e, ok, d)
		}
		b := lay(func(w *codec.Writer) { w.Filter(f) })
		if !codec.Read(b, func(r *codec.Reader) {
			if g := r.Filter(); !alikeFilter(f, g) {
				t.Fatalf("there and back: %#v, %#v", f, g)
			}
		}) {
			t.Fatalf("not read: %x", b)
		}
	}
}

// someBytes: bytes that are near to an event's: its own ones, some of them changed, taken away or added.
func someBytes(r *rand.Rand) []byte {
	b := slices.Clone(events[r.Intn(len(events))].b)
	for range r.Intn(4) {
		i := r.Intn(len(b) + 1)
		switch r.Intn(3) {
		case 0:
			b = slices.Insert(b, i, byte(r.Intn(256)))
		case 1:
			b = slices.Delete(b, min(i, len(b)), min(i+1, len(b)))
		case 2:
			if i < len(b) {
				b[i] = byte(r.Intn(9))
			}
		}
	}
	return b
}

// TestReadAnyBytes: of any bytes there is an answer: the event whose bytes just these are, and that is Right; or the zero one.
func TestReadAnyBytes(t *testing.T) {
	r := rand.New(rand.NewSource(2))
	read := 0
	for i := range 100000 {
		b := someBytes(r)
		if i%4 == 0 {
			b = make([]byte, r.Intn(12))
			for j := range b {
				b[j] = byte(r.Intn(4))
			}
		}
		e, ok := codec.ReadEvent(b)
		if ok && (!event.Right(e) || !bytes.Equal(codec.Event(e), b)) || !ok && !alikeEvent(e, api.Event{}) {
			t.Fatalf("ReadEvent(%x) = %#v, %v", b, e, ok)
		}
		if ok {
			read++
		}
		var f api.Filter
		if codec.Read(b, func(r *codec.Reader) { f = r.Filter() }) && !bytes.Equal(lay(func(w *codec.Writer) { w.Filter(f) }), b) {
			t.Fatalf("Filter of %x: %#v", b, f)
		}
	}
	if read < 1000 {
		t.Errorf("only %d events were read", read)
	}
}
