package order_test

import (
	"math"
	"math/rand"
	"testing"

	"gazette/order"
)

const highest uint64 = 1 << 63

// keys: numbers that rise, each with the key that the words of the chapter give it, worked out by hand.
var keys = []struct {
	x float64
	k uint64
}{
	{math.Inf(-1), 0x000fffffffffffff},
	{-math.MaxFloat64, 0x0010000000000000},
	{-2, 0x3fffffffffffffff},
	{-1.5, 0x4007ffffffffffff},
	{-1, 0x400fffffffffffff},
	{-0x1p-1022, 0x7fefffffffffffff},
	{-math.SmallestNonzeroFloat64, 0x7ffffffffffffffe},
	{0, 0x8000000000000000},
	{math.SmallestNonzeroFloat64, 0x8000000000000001},
	{0x1p-1022, 0x8010000000000000},
	{1, 0xbff0000000000000},
	{1.5, 0xbff8000000000000},
	{2, 0xc000000000000000},
	{math.MaxFloat64, 0xffefffffffffffff},
	{math.Inf(1), 0xfff0000000000000},
}

// nones: bits of numbers that are none: quiet and signalling ones, of both signs, the least and the greatest ones.
var nones = []uint64{
	0x7ff0000000000001, 0x7ff4000000000000, 0x7ff7ffffffffffff, 0x7ff8000000000000, 0x7ff8000000000001, 0x7fffffffffffffff,
	0xfff0000000000001, 0xfff4000000000000, 0xfff7ffffffffffff, 0xfff8000000000000, 0xfff8000000000001, 0xffffffffffffffff,
}

// strangers: keys to which no number belongs: that of the nought with a sign, and of all NaNs' bits but the one of 2^64 - 1.
var strangers = []uint64{
	0, 1, 0x0007ffffffffffff, 0x000ffffffffffffe,
	highest - 1,
	0xfff0000000000001, 0xfff8000000000000, 0xfff8000000000001, 0xfffffffffffffffe,
}

var minus = math.Copysign(0, -1)

// numbers: those of keys, the nought with a sign, those that are none, and any bits (the same ones each time).
func numbers() []float64 {
	l := []float64{minus}
	for _, c := range keys {
		l = append(l, c.x)
	}
	for _, b := range nones {
		l = append(l, math.Float64frombits(b))
	}
	r := rand.New(rand.NewSource(1))
	for range 300 {
		l = append(l, math.Float64frombits(r.Uint64()), r.NormFloat64())
	}
	return l
}

// bits: how a number is laid, signs of noughts and all: == doesn't tell these apart.
func bits(x float64) uint64 { return math.Float64bits(x) }

func TestCanon(t *testing.T) {
	for _, c := range keys {
		if y := order.Canon(c.x); bits(y) != bits(c.x) {
			t.Errorf("Canon(%v) = %v", c.x, y)
		}
	}
	if y := order.Canon(minus); bits(y) != 0 {
		t.Errorf("Canon of the nought with a sign: bits %x", bits(y))
	}
	one := order.Canon(math.NaN())
	for _, b := range nones {
		if y := order.Canon(math.Float64frombits(b)); !math.IsNaN(y) || bits(y) != bits(one) {
			t.Errorf("Canon of the NaN %x: bits %x", b, bits(y))
		}
	}
}

func TestKey(t *testing.T) {
	for _, c := range keys {
		if k := order.Key(c.x); k != c.k {
			t.Errorf("Key(%v) = %x, want %x", c.x, k, c.k)
		}
	}
	if k := order.Key(minus); k != highest {
		t.Errorf("Key of the nought with a sign: %x", k)
	}
	for _, b := range nones {
		if k := order.Key(math.Float64frombits(b)); k != math.MaxUint64 {
			t.Errorf("Key of the NaN %x: %x", b, k)
		}
	}
}

func TestKeysRise(t *testing.T) {
	l := numbers()
	for _, a := range l {
		for _, b := range l {
			if a < b && order.Key(a) >= order.Key(b) {
				t.Errorf("Key(%v) isn't below Key(%v)", a, b)
			}
			if math.IsNaN(b) && !math.IsNaN(a) && order.Key(a) >= order.Key(b) {
				t.Errorf("Key(%v) isn't below that of a NaN", a)
			}
		}
	}
}

func TestBack(t *testing.T) {
	for _, c := range keys {
		if x, ok := order.Back(c.k); !ok || bits(x) != bits(c.x) {
			t.Errorf("Back(%x) = %v, %v, want %v", c.k, x, ok, c.x)
		}
	}
	if x, ok := order.Back(math.MaxUint64); !ok || !math.IsNaN(x) || bits(x) != bits(order.Canon(x)) {
		t.Errorf("Back of the highest key: %v (%x), %v", x, bits(x), ok)
	}
}

func TestBackOfNoKey(t *testing.T) {
	for _, k := range strangers {
		if x, ok := order.Back(k); ok || bits(x) != 0 {
			t.Errorf("Back(%x) = %v, %v", k, x, ok)
		}
	}
}

// TestBackEdges: the highest and the lowest key of each run of keys that are some number's, and what lies next to it.
func TestBackEdges(t *testing.T) {
	low, high := order.Key(math.Inf(-1)), order.Key(math.Inf(1))
	for _, c := range []struct {
		k  uint64
		ok bool
	}{
		{low - 1, false}, {low, true}, {low + 1, true},
		{highest - 2, true}, {highest - 1, false}, {highest, true}, {highest + 1, true},
		{high - 1, true}, {high, true}, {high + 1, false},
		{math.MaxUint64 - 1, false}, {math.MaxUint64, true}, {0, false},
	} {
		if _, ok := order.Back(c.k); ok != c.ok {
			t.Errorf("Back(%x): %v", c.k, ok)
		}
	}
}

// TestThereAndBack: at any number and at any key.
func TestThereAndBack(t *testing.T) {
	for _, x := range numbers() {
		if y, ok := order.Back(order.Key(x)); !ok || bits(y) != bits(order.Canon(x)) {
			t.Errorf("Back(Key(%v)) = %v, %v", x, y, ok)
		}
	}
	r := rand.New(rand.NewSource(2))
	for i := range 3000 {
		k := r.Uint64()
		if i%3 > 0 { // near the ends, where keys are none's
			k = uint64(i%2)*0xfff0<<48 | k>>12
		}
		x, ok := order.Back(k)
		if want := k == math.MaxUint64 || k >= 0x000fffffffffffff && k <= 0xfff0000000000000 && k != highest-1; ok != want {
			t.Errorf("Back(%x): %v", k, ok)
		}
		if ok && order.Key(x) != k || !ok && bits(x) != 0 {
			t.Errorf("Back(%x) = %v, %v", k, x, ok)
		}
	}
}

func TestLess(t *testing.T) {
	for i, a := range keys {
		for j, b := range keys {
			if order.Less(a.x, b.x) != (i < j) {
				t.Errorf("Less(%v, %v)", a.x, b.x)
			}
		}
	}
	if order.Less(minus, 0) || order.Less(0, minus) {
		t.Error("one nought is less than the other one")
	}
	for _, n := range nones {
		for _, x := range numbers() {
			if y := math.Float64frombits(n); order.Less(x, y) || order.Less(y, x) {
				t.Errorf("Less of %v and the NaN %x", x, n)
			}
		}
	}
}

func TestSame(t *testing.T) {
	for i, a := range keys {
		for j, b := range keys {
			if order.Same(a.x, b.x) != (i == j) {
				t.Errorf("Same(%v, %v)", a.x, b.x)
			}
		}
	}
	if !order.Same(minus, 0) || !order.Same(0, minus) || !order.Same(minus, minus) {
		t.Error("noughts aren't the same")
	}
	for _, n := range nones {
		y := math.Float64frombits(n)
		for _, x := range numbers() {
			if none := math.IsNaN(x); order.Same(x, y) != none || order.Same(y, x) != none {
				t.Errorf("Same of %v and the NaN %x", x, n)
			}
		}
	}
}

func TestNone(t *testing.T) {
	for _, c := range keys {
		if order.None(c.x) {
			t.Errorf("None(%v)", c.x)
		}
	}
	if order.None(minus) {
		t.Error("None of the nought with a sign")
	}
	for _, n := range nones {
		if !order.None(math.Float64frombits(n)) {
			t.Errorf("None of the NaN %x: false", n)
		}
	}
}
