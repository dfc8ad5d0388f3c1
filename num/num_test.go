package num

import (
	"math"
	"slices"
	"testing"

	"ropeway/api"
)

const signBit = 1 << 63

// ordered holds bits of numbers in the order of Less: no two of them are the same number.
var ordered = []uint64{
	0xFFF0000000000000, // -infinity
	0xFFEFFFFFFFFFFFFF, // the greatest normal number, negative
	0xC000000000000000, // -2
	0xBFF0000000000000, // -1
	0x8010000000000000, // the least normal number, negative
	0x800FFFFFFFFFFFFF, // the greatest subnormal number, negative
	0x8000000000000001, // the least subnormal number, negative
	0x8000000000000000, // -0
	0x0000000000000000, // 0
	0x0000000000000001,
	0x000FFFFFFFFFFFFF,
	0x0010000000000000,
	0x3FF0000000000000,
	0x4000000000000000,
	0x7FEFFFFFFFFFFFFF,
	0x7FF0000000000000, // infinity
	0x7FF8000000000001, // not a number
}

// nans holds bits of what is not a number: quiet and signalling, of both signs, the first and the last of each.
var nans = []uint64{
	0x7FF0000000000001, 0x7FF7FFFFFFFFFFFF, 0x7FF8000000000000, 0x7FF8000000000001, 0x7FF8000000000002, 0x7FFFFFFFFFFFFFFF,
	0xFFF0000000000001, 0xFFF7FFFFFFFFFFFF, 0xFFF8000000000000, 0xFFF8000000000001, 0xFFF8000000000123, 0xFFFFFFFFFFFFFFFF,
}

// P1.1
func TestBitsOfNumbers(t *testing.T) {
	for _, c := range []struct {
		x    float64
		bits uint64
	}{
		{0, 0}, {math.Copysign(0, -1), signBit},
		{1, 0x3FF0000000000000}, {-2, 0xC000000000000000}, {0.1, 0x3FB999999999999A},
		{math.SmallestNonzeroFloat64, 1}, {0x1p-1022, 0x0010000000000000},
		{math.MaxFloat64, 0x7FEFFFFFFFFFFFFF}, {-math.MaxFloat64, 0xFFEFFFFFFFFFFFFF},
		{math.Inf(1), 0x7FF0000000000000}, {math.Inf(-1), 0xFFF0000000000000},
		{math.NaN(), 0x7FF8000000000001},
	} {
		if b := Bits(c.x); b != c.bits {
			t.Errorf("Bits(%v) = %X, want %X", c.x, b, c.bits)
		}
		if b := math.Float64bits(Of(c.bits)); b != c.bits {
			t.Errorf("Of(%X) has bits %X", c.bits, b)
		}
	}
}

// P1.1
func TestNansHaveOneForm(t *testing.T) {
	for _, n := range nans {
		if b := Bits(math.Float64frombits(n)); b != 0x7FF8000000000001 {
			t.Errorf("Bits of %X = %X", n, b)
		}
		if b := math.Float64bits(Of(n)); b != 0x7FF8000000000001 {
			t.Errorf("Of(%X) has bits %X", n, b)
		}
		for _, m := range nans {
			if !Same(math.Float64frombits(n), math.Float64frombits(m)) {
				t.Errorf("Same(%X, %X) is false", n, m)
			}
		}
	}
}

// P1.1: every exponent, with both signs and with fractions at its edges.
func TestOfKeepsAllButNans(t *testing.T) {
	for high := range uint64(1 << 12) {
		for _, low := range []uint64{0, 1, 1 << 51, 1<<51 + 1, 1<<52 - 1} {
			bits := high<<52 | low
			want := bits
			if high&0x7FF == 0x7FF && low != 0 {
				want = 0x7FF8000000000001
			}
			if b := math.Float64bits(Of(bits)); b != want {
				t.Fatalf("Of(%X) has bits %X, want %X", bits, b, want)
			}
			if b := Bits(math.Float64frombits(bits)); b != want {
				t.Fatalf("Bits of %X = %X, want %X", bits, b, want)
			}
		}
	}
}

// P1.1 Same, P1.2 Less
func TestSameAndLess(t *testing.T) {
	for i, a := range ordered {
		for k, b := range ordered {
			x, y := math.Float64frombits(a), math.Float64frombits(b)
			if s := Same(x, y); s != (i == k) {
				t.Errorf("Same(%v, %v) = %v", x, y, s)
			}
			if l := Less(x, y); l != (i < k) {
				t.Errorf("Less(%v, %v) = %v", x, y, l)
			}
		}
	}
}

// P1.2
func TestNansAreBehindAll(t *testing.T) {
	for _, n := range nans {
		x := math.Float64frombits(n)
		for _, b := range ordered[:len(ordered)-1] {
			y := math.Float64frombits(b)
			if Less(x, y) || !Less(y, x) || Same(x, y) {
				t.Errorf("%X is not behind %v", n, y)
			}
		}
		for _, m := range nans {
			if Less(x, math.Float64frombits(m)) {
				t.Errorf("Less(%X, %X)", n, m)
			}
		}
	}
}

// P1.2
func TestKindNumbers(t *testing.T) {
	if k := [...]int{Nan, Infinite, Normal, Subnormal, Zero}; k != [...]int{0, 1, 2, 3, 4} {
		t.Error(k)
	}
}

// P1.2
func TestKind(t *testing.T) {
	for _, c := range []struct {
		bits uint64
		kind int
	}{
		{0x0000000000000000, Zero},
		{0x0000000000000001, Subnormal},
		{0x0008000000000000, Subnormal},
		{0x000FFFFFFFFFFFFF, Subnormal},
		{0x0010000000000000, Normal},
		{0x3FF0000000000000, Normal},
		{0x7FEFFFFFFFFFFFFF, Normal},
		{0x7FF0000000000000, Infinite},
	} {
		for _, bits := range []uint64{c.bits, c.bits | signBit} {
			if k := Kind(math.Float64frombits(bits)); k != c.kind {
				t.Errorf("Kind of %X = %d, want %d", bits, k, c.kind)
			}
		}
	}
	for _, n := range nans {
		if k := Kind(math.Float64frombits(n)); k != Nan {
			t.Errorf("Kind of %X = %d", n, k)
		}
	}
}

// P1.2
func TestTop(t *testing.T) {
	for kind, want := range []uint64{
		Nan:       0x7FF8000000000001,
		Infinite:  0x7FF0000000000000,
		Normal:    0x7FEFFFFFFFFFFFFF,
		Subnormal: 0x000FFFFFFFFFFFFF,
		Zero:      0x0000000000000000,
	} {
		x, e := Top(kind)
		if math.Float64bits(x) != want || e != api.OK {
			t.Errorf("Top(%d) = %X, %d", kind, math.Float64bits(x), e)
		}
	}
}

// P1.2: no number of a kind is behind its top, and the top is of that kind.
func TestTopIsLast(t *testing.T) {
	for kind := Nan; kind <= Zero; kind++ {
		top, _ := Top(kind)
		if Kind(top) != kind {
			t.Errorf("Top(%d) is of kind %d", kind, Kind(top))
		}
		for _, bits := range slices.Concat(nans, ordered) {
			if x := math.Float64frombits(bits); Kind(x) == kind && Less(top, x) {
				t.Errorf("%v is behind Top(%d)", x, kind)
			}
		}
	}
}

// P1.2 and the chapter's errors: a kind that there isn't.
func TestTopOfNoKind(t *testing.T) {
	if api.ErrNum != 11 {
		t.Error(api.ErrNum)
	}
	for _, kind := range []int{-1, 5, 6, 256, 1 << 32, math.MinInt, math.MaxInt} {
		x, e := Top(kind)
		if math.Float64bits(x) != 0 || e != api.ErrNum {
			t.Errorf("Top(%d) = %v, %d", kind, x, e)
		}
	}
}
