package log

import (
	"bytes"
	"fmt"
	"hash/crc32"
	"math"
	"math/rand"
	"slices"
	"testing"

	"ropeway/api"
	"ropeway/disk"
)

// minusZero answers the zero below 0.
func minusZero() float64 { return math.Copysign(0, -1) }

// nanBits is how what is not a number is put, whatever its bits are.
const nanBits = 0x7FF8000000000001

// nans lists what is not a number, by unlike bits.
func nans() []float64 {
	var l []float64
	for _, bits := range []uint64{nanBits, 0x7FF0000000000001, 0x7FF8000000000000, 0x7FFFFFFFFFFFFFFF, 0xFFF8000000000001, 0xFFF0000000000123, math.MaxUint64} {
		l = append(l, math.Float64frombits(bits))
	}
	return l
}

// oddValues lists values, no two of them the same.
func oddValues() []float64 {
	return []float64{0, minusZero(), math.NaN(), math.Inf(1), math.Inf(-1), 1, -1, 0.1, 300,
		math.MaxFloat64, -math.MaxFloat64, math.SmallestNonzeroFloat64, -math.SmallestNonzeroFloat64}
}

// farNumbers lists numbers that are far away, those among them whose low bits look like a small one.
func farNumbers() []int {
	return []int{1 << 31, 1 << 32, 1<<32 + 1, 1<<32 + 2, 1<<32 + 5, 1 << 62, math.MaxInt, math.MaxInt - 1,
		-1 << 31, -1 << 32, -1<<32 + 1, math.MinInt, math.MinInt + 1, math.MinInt + 5, -256, 256, 257, 258, -250}
}

// kinds lists the kinds that there are.
func kinds() []int {
	return []int{api.RecValue, api.RecCell, api.RecMark, api.RecTag, api.RecIntent, api.RecBoot}
}

// wrongKinds lists numbers that are no kind.
func wrongKinds() []int {
	return append(farNumbers(), 0, 7, 8, 9, 16, 255, -1, -2, -3, -4, -5, -6, -7)
}

// value answers a record of a value in few words.
func value(v api.View, key, number, node int, x float64) api.Rec {
	return api.Rec{Kind: api.RecValue, View: v, Entry: api.Entry{Key: key, Tag: api.Tag{Num: number, Node: node}, Value: x}}
}

// cell answers a record of a cell in few words.
func cell(v api.View, node int, c api.View) api.Rec {
	return api.Rec{Kind: api.RecCell, View: v, Cell: api.Cell{Node: node, Change: c}}
}

// mark answers a record of a mark in few words.
func mark(v api.View) api.Rec { return api.Rec{Kind: api.RecMark, View: v} }

// intent answers a record of an intent in few words.
func intent(v, c api.View) api.Rec {
	return api.Rec{Kind: api.RecIntent, View: v, Cell: api.Cell{Change: c}}
}

// number answers a record of a tag or of a boot in few words.
func number(kind, n int) api.Rec { return api.Rec{Kind: kind, N: n} }

// oneOfEach answers a record of each kind that has nothing but what is right and not zero.
func oneOfEach() []api.Rec {
	return []api.Rec{
		value(api.View{Add: 7, Del: 1}, 2, 300, 5, 0.5),
		cell(api.View{Add: 7}, 2, api.View{Del: 4}),
		mark(api.View{Add: 63, Del: 62}),
		number(api.RecTag, 5),
		intent(api.View{Add: 3}, api.View{Add: 8, Del: 1}),
		number(api.RecBoot, 70000),
	}
}

// rights lists records that are RIGHT, no two of them the same, with the edges that the chapter names.
func rights() []api.Rec {
	l := oneOfEach()
	views := []api.View{{}, {Add: 1}, {Del: 1}, {Add: 63}, {Del: 63}, {Add: 63, Del: 63}, {Add: 4, Del: 32}}
	for _, v := range views {
		l = append(l, mark(v))
		for _, c := range views[1:] {
			l = append(l, intent(v, c))
			for node := range 6 {
				l = append(l, cell(v, node, c))
			}
		}
		for key := range 4 {
			for _, n := range []int{1, 255, 256, 65535, 65536, 1000000} {
				l = append(l, value(v, key, n, key+n%3, 2))
			}
		}
		for _, x := range oddValues() {
			l = append(l, value(v, 3, 9, 4, x))
		}
	}
	for _, n := range []int{1, 2, 255, 256, 300, 65535, 65536, 999999, 1000000} {
		l = append(l, number(api.RecTag, n), number(api.RecBoot, n))
	}
	return l
}

// wrongs lists records that aren't RIGHT, for unlike reasons.
func wrongs() []api.Rec {
	l := []api.Rec{{}, {Kind: api.RecValue}, {Kind: api.RecCell}, {Kind: api.RecTag}, {Kind: api.RecIntent}, {Kind: api.RecBoot},
		{Kind: 7}, {Kind: -1}, {Kind: 1 << 32}, mark(api.View{Add: 64}), mark(api.View{Del: -1}),
		cell(api.View{Add: 1}, 6, api.View{Add: 1}), cell(api.View{Add: 1}, -1, api.View{Add: 1}),
		cell(api.View{Add: 1}, 1, api.View{}), cell(api.View{Add: 1}, 1, api.View{Add: 64}),
		intent(api.View{Add: 64}, api.View{Add: 1}), intent(api.View{Add: 1}, api.View{}),
		value(api.View{}, 4, 1, 0, 0), value(api.View{}, 0, 0, 0, 0), value(api.View{}, 0, 1, 6, 0), value(api.View{Del: 64}, 0, 1, 0, 0),
		number(api.RecTag, 1000001), number(api.RecBoot, 1000001), number(api.RecBoot, -1)}
	for _, r := range oneOfEach() {
		for _, f := range fields() {
			if !f.of(r.Kind) {
				f.set(&r)
				l = append(l, r)
				break
			}
		}
	}
	return l
}

// field is something that records of some kinds have.
type field struct {
	name  string
	kinds []int
	set   func(r *api.Rec)
}

// of tells whether records of a kind have it.
func (f field) of(kind int) bool { return slices.Contains(f.kinds, kind) }

// fields lists all of them, each with something that isn't zero, and, where that can be, right by itself.
func fields() []field {
	const v, c, m, g, i, b = api.RecValue, api.RecCell, api.RecMark, api.RecTag, api.RecIntent, api.RecBoot
	whole := api.Entry{Key: 1, Tag: api.Tag{Num: 2, Node: 3}, Value: 4}
	l := []field{
		{"View.Add", []int{v, c, m, i}, func(r *api.Rec) { r.View.Add = 1 }},
		{"View.Add, the highest", []int{v, c, m, i}, func(r *api.Rec) { r.View.Add = 32 }},
		{"View.Del", []int{v, c, m, i}, func(r *api.Rec) { r.View.Del = 1 }},
		{"View.Del, the highest", []int{v, c, m, i}, func(r *api.Rec) { r.View.Del = 32 }},
		{"Cell.Node", []int{c}, func(r *api.Rec) { r.Cell.Node = 1 }},
		{"Cell.Node, the highest", []int{c}, func(r *api.Rec) { r.Cell.Node = 5 }},
		{"Cell.Change.Add", []int{c, i}, func(r *api.Rec) { r.Cell.Change.Add = 1 }},
		{"Cell.Change.Del", []int{c, i}, func(r *api.Rec) { r.Cell.Change.Del = 1 }},
		{"Entry.Key", []int{v}, func(r *api.Rec) { r.Entry.Key = 1 }},
		{"Entry.Tag.Num", []int{v}, func(r *api.Rec) { r.Entry.Tag.Num = 1 }},
		{"Entry.Tag.Node", []int{v}, func(r *api.Rec) { r.Entry.Tag.Node = 1 }},
		{"Entry", []int{v}, func(r *api.Rec) { r.Entry = whole }},
		{"N", []int{g, b}, func(r *api.Rec) { r.N = 1 }},
		{"N, the highest", []int{g, b}, func(r *api.Rec) { r.N = 1000000 }},
		{"N below 0", nil, func(r *api.Rec) { r.N = -1 }},
	}
	for _, x := range slices.Concat(oddValues()[1:], nans()) {
		l = append(l, field{fmt.Sprintf("Entry.Value %x", math.Float64bits(x)), []int{v}, func(r *api.Rec) { r.Entry.Value = x }})
	}
	return l
}

// check tells whether Right, and Bytes with it, answer what they should.
func check(t *testing.T, r api.Rec, want bool) {
	t.Helper()
	if Right(r) != want {
		t.Errorf("Right(%+v) = %v", r, !want)
	}
	b, e := Bytes(r)
	if want && (e != api.OK || len(b) == 0) || !want && (e != 91 || len(b) != 0) {
		t.Errorf("Bytes(%+v) = %v, %d", r, b, e)
	}
}

// P9.1: the numbers of the errors, of the kinds and of the limit.
func TestNumbers(t *testing.T) {
	if api.ErrRec != 91 || api.ErrFull != 81 || api.ErrPower != 82 || api.MaxNum != 1000000 {
		t.Error("an error's number, or the limit")
	}
	if !slices.Equal(kinds(), []int{1, 2, 3, 4, 5, 6}) {
		t.Error(kinds())
	}
}

// P9.1 Right: records that are, of each kind.
func TestRightOfEachKind(t *testing.T) {
	for _, r := range rights() {
		check(t, r, true)
	}
	for _, r := range wrongs() {
		check(t, r, false)
	}
}

// P9.1 Right: kinds that there aren't, with nothing and with what a record of each kind has.
func TestRightWrongKind(t *testing.T) {
	for _, kind := range wrongKinds() {
		check(t, api.Rec{Kind: kind}, false)
		for _, r := range oneOfEach() {
			r.Kind = kind
			check(t, r, false)
		}
	}
}

// P9.1 Right: a record of one kind isn't one of another, unless both have the same.
func TestRightOtherKind(t *testing.T) {
	for _, r := range oneOfEach() {
		for _, kind := range kinds() {
			was := r.Kind
			other := r
			other.Kind = kind
			alike := was == kind || was == api.RecTag && kind == api.RecBoot || was == api.RecBoot && kind == api.RecTag ||
				was == api.RecIntent && kind == api.RecCell
			check(t, other, alike)
		}
	}
}

// P9.1 Right: every View, and some that aren't RIGHT.
func TestRightView(t *testing.T) {
	try := func(v api.View) {
		want := v.Add >= 0 && v.Add <= 63 && v.Del >= 0 && v.Del <= 63
		check(t, value(v, 1, 2, 3, 4), want)
		check(t, cell(v, 1, api.View{Add: 2}), want)
		check(t, mark(v), want)
		check(t, intent(v, api.View{Del: 2}), want)
		check(t, api.Rec{Kind: api.RecTag, N: 3, View: v}, v == api.View{})
		check(t, api.Rec{Kind: api.RecBoot, N: 3, View: v}, v == api.View{})
	}
	for add := -1; add <= 64; add++ {
		for del := -1; del <= 64; del++ {
			try(api.View{Add: add, Del: del})
		}
	}
	for _, far := range farNumbers() {
		try(api.View{Add: far})
		try(api.View{Del: far})
		try(api.View{Add: far, Del: 5})
		try(api.View{Add: 5, Del: far})
	}
}

// P9.1 Right: every Change, nothing at all among them, and some that aren't RIGHT.
func TestRightChange(t *testing.T) {
	try := func(c api.View) {
		want := c.Add >= 0 && c.Add <= 63 && c.Del >= 0 && c.Del <= 63 && c != api.View{}
		check(t, intent(api.View{}, c), want)
		check(t, intent(api.View{Add: 7}, c), want)
		for _, node := range []int{0, 5} {
			check(t, cell(api.View{}, node, c), want)
			check(t, cell(api.View{Add: 63, Del: 1}, node, c), want)
		}
		for _, r := range []api.Rec{value(api.View{Add: 1}, 1, 2, 3, 4), mark(api.View{Add: 1}), number(api.RecTag, 1), number(api.RecBoot, 1)} {
			r.Cell.Change = c
			check(t, r, c == api.View{})
		}
	}
	for add := -1; add <= 64; add++ {
		for del := -1; del <= 64; del++ {
			try(api.View{Add: add, Del: del})
		}
	}
	for _, far := range farNumbers() {
		try(api.View{Add: far})
		try(api.View{Del: far})
		try(api.View{Add: far, Del: 5})
		try(api.View{Add: 5, Del: far})
	}
}

// P9.1 Right: a Cell's Node: from 0 to 5 in a RecCell, 0 in a RecIntent.
func TestRightNode(t *testing.T) {
	for _, node := range append(farNumbers(), -2, -1, 0, 1, 2, 3, 4, 5, 6, 7) {
		check(t, cell(api.View{Add: 7}, node, api.View{Add: 8}), node >= 0 && node <= 5)
		r := intent(api.View{Add: 7}, api.View{Add: 8})
		r.Cell.Node = node
		check(t, r, node == 0)
	}
}

// P9.1 Right: an Entry that alone is a BOOK, or isn't.
func TestRightEntry(t *testing.T) {
	numbers := append(farNumbers(), -1000000, -2, -1, 0, 1, 2, 3, 4, 5, 6, 7, 999999, 1000000, 1000001)
	for _, key := range numbers {
		check(t, value(api.View{Add: 1}, key, 1, 0, 7), key >= 0 && key <= 3)
	}
	for _, n := range numbers {
		for _, node := range numbers {
			check(t, value(api.View{Add: 1}, 3, n, node, 7), n >= 1 && n <= 1000000 && node >= 0 && node <= 5)
		}
	}
}

// P9.1 Right: every N that there is, and a few beside them.
func TestRightN(t *testing.T) {
	for n := -1000; n <= 1001000; n++ {
		for _, kind := range []int{api.RecTag, api.RecBoot} {
			if Right(number(kind, n)) != (n >= 1 && n <= 1000000) {
				t.Fatalf("kind %d with N %d", kind, n)
			}
		}
	}
	for _, n := range append(farNumbers(), 0, 1, 1000000, 1000001) {
		check(t, number(api.RecTag, n), n >= 1 && n <= 1000000)
		check(t, number(api.RecBoot, n), n >= 1 && n <= 1000000)
		check(t, api.Rec{Kind: api.RecMark, N: n}, n == 0)
	}
}

// P9.1 Right: what a Kind doesn't have must be zero, each thing by itself; a Value's bits 0.
func TestRightNotItsOwn(t *testing.T) {
	for _, r := range oneOfEach() {
		for _, f := range fields() {
			other := r
			f.set(&other)
			if Right(other) != f.of(r.Kind) {
				t.Errorf("kind %d with %s: %v", r.Kind, f.name, !f.of(r.Kind))
			}
			if b, e := Bytes(other); (e == api.OK) != f.of(r.Kind) || e != api.OK && (e != api.ErrRec || len(b) != 0) {
				t.Errorf("kind %d with %s: %v, %d", r.Kind, f.name, b, e)
			}
		}
	}
}

// P9.1 Right: all Values can be in a RecValue.
func TestRightValues(t *testing.T) {
	for _, x := range slices.Concat(oddValues(), nans()) {
		check(t, value(api.View{Add: 1}, 0, 1, 0, x), true)
	}
}

// form answers a number's FORM, reckoned byte by byte.
func form(n uint64) []byte {
	var b []byte
	for ; n > 0; n /= 256 {
		b = slices.Insert(b, 0, byte(n%256))
	}
	return slices.Insert(b, 0, byte(len(b)))
}

// framed answers the Text of the Seal of some bytes, with a sum of the library's.
func framed(b []byte) []byte {
	sum := crc32.ChecksumIEEE(b)
	sealed := append(slices.Clone(b), byte(sum), byte(sum>>8), byte(sum>>16), byte(sum>>24))
	return slices.Concat(form(uint64(len(sealed))), sealed)
}

// numbered answers the Text of the Seal of the FORMS of numbers.
func numbered(nums ...uint64) []byte {
	var b []byte
	for _, n := range nums {
		b = append(b, form(n)...)
	}
	return framed(b)
}

// reckoned answers what the Bytes of a record should be.
func reckoned(r api.Rec) []byte {
	name := func(v api.View) uint64 { return uint64(64*v.Add + v.Del) }
	kind := uint64(r.Kind)
	switch r.Kind {
	case 1:
		bits := math.Float64bits(r.Entry.Value)
		if r.Entry.Value != r.Entry.Value {
			bits = nanBits
		}
		return numbered(kind, name(r.View), uint64(r.Entry.Key), uint64(r.Entry.Tag.Num), uint64(r.Entry.Tag.Node), bits)
	case 2:
		return numbered(kind, name(r.View), uint64(r.Cell.Node), name(r.Cell.Change))
	case 3:
		return numbered(kind, name(r.View))
	case 5:
		return numbered(kind, name(r.View), name(r.Cell.Change))
	}
	return numbered(kind, uint64(r.N))
}

// joined answers the Bytes of records, one behind the other, as they should be.
func joined(l ...api.Rec) []byte {
	var b []byte
	for _, r := range l {
		b = append(b, reckoned(r)...)
	}
	return b
}

// P9.1 Bytes: the exact form, byte by byte.
func TestBytesKnown(t *testing.T) {
	for i, c := range []struct {
		r     api.Rec
		forms []byte
	}{
		{value(api.View{Add: 7, Del: 1}, 2, 300, 5, 0.5), []byte{1, 1, 2, 1, 193, 1, 2, 2, 1, 44, 1, 5, 8, 63, 224, 0, 0, 0, 0, 0, 0}},
		{value(api.View{}, 0, 1, 0, 0), []byte{1, 1, 0, 0, 1, 1, 0, 0}},
		{value(api.View{Add: 63, Del: 63}, 3, 1000000, 5, minusZero()), []byte{1, 1, 2, 15, 255, 1, 3, 3, 15, 66, 64, 1, 5, 8, 128, 0, 0, 0, 0, 0, 0, 0}},
		{value(api.View{Del: 1}, 1, 1, 1, nans()[5]), []byte{1, 1, 1, 1, 1, 1, 1, 1, 1, 1, 8, 127, 248, 0, 0, 0, 0, 0, 1}},
		{value(api.View{Del: 1}, 1, 1, 1, math.Inf(-1)), []byte{1, 1, 1, 1, 1, 1, 1, 1, 1, 1, 8, 255, 240, 0, 0, 0, 0, 0, 0}},
		{value(api.View{Del: 1}, 1, 1, 1, math.SmallestNonzeroFloat64), []byte{1, 1, 1, 1, 1, 1, 1, 1, 1, 1, 1, 1}},
		{cell(api.View{Add: 7}, 2, api.View{Del: 4}), []byte{1, 2, 2, 1, 192, 1, 2, 1, 4}},
		{cell(api.View{}, 0, api.View{Add: 1}), []byte{1, 2, 0, 0, 1, 64}},
		{mark(api.View{Add: 5, Del: 2}), []byte{1, 3, 2, 1, 66}},
		{mark(api.View{}), []byte{1, 3, 0}},
		{number(api.RecTag, 1000000), []byte{1, 4, 3, 15, 66, 64}},
		{number(api.RecTag, 1), []byte{1, 4, 1, 1}},
		{intent(api.View{Add: 3}, api.View{Add: 8, Del: 1}), []byte{1, 5, 1, 192, 2, 2, 1}},
		{number(api.RecBoot, 256), []byte{1, 6, 2, 1, 0}},
	} {
		b, e := Bytes(c.r)
		if e != api.OK || !bytes.Equal(b, framed(c.forms)) || !bytes.Equal(b, reckoned(c.r)) {
			t.Errorf("%d: Bytes(%+v) = %v, %d; want %v", i, c.r, b, e, framed(c.forms))
		}
	}
	// The sum written out: so nothing here hangs on how the others are reckoned.
	want := []byte{1, 8, 1, 4, 1, 1, 0x72, 0x11, 0xED, 0xF0}
	if b, e := Bytes(number(api.RecTag, 1)); e != api.OK || !bytes.Equal(b, want) {
		t.Errorf("% X", b)
	}
}

// P9.1 Bytes: the exact form of all that are listed, and of random ones.
func TestBytesReckoned(t *testing.T) {
	r := rand.New(rand.NewSource(91))
	for _, rec := range slices.Concat(rights(), someRecs(r, 20000)) {
		if b, e := Bytes(rec); e != api.OK || !bytes.Equal(b, reckoned(rec)) {
			t.Fatalf("Bytes(%+v) = %v, %d; want %v", rec, b, e, reckoned(rec))
		}
	}
}

// someView answers any set.
func someView(r *rand.Rand) api.View { return api.View{Add: r.Intn(64), Del: r.Intn(64)} }

// someRec answers a record that is RIGHT.
func someRec(r *rand.Rand) api.Rec {
	c := someView(r)
	c.Add |= 1 << r.Intn(6)
	switch kind := 1 + r.Intn(6); kind {
	case api.RecValue:
		x := math.Float64frombits(r.Uint64())
		if r.Intn(2) == 0 {
			x = oddValues()[r.Intn(len(oddValues()))]
		}
		return value(someView(r), r.Intn(4), 1+r.Intn(1000000), r.Intn(6), x)
	case api.RecCell:
		return cell(someView(r), r.Intn(6), c)
	case api.RecMark:
		return mark(someView(r))
	case api.RecIntent:
		return intent(someView(r), c)
	default:
		return number(kind, 1+r.Intn(1000000)>>r.Intn(20))
	}
}

// someRecs answers so many records that are RIGHT.
func someRecs(r *rand.Rand, many int) []api.Rec {
	l := make([]api.Rec, many)
	for i := range l {
		l[i] = someRec(r)
	}
	return l
}

// P9.1 Bytes: of unlike records they are unlike, and none begins with those of another; of the same ones the same.
func TestBytesDiffer(t *testing.T) {
	l := rights()
	for name := range 4096 {
		v := api.View{Add: name / 64, Del: name % 64}
		l = append(l, mark(v), value(v, 0, 77, 0, 5))
		if name > 0 {
			l = append(l, intent(api.View{Add: 9}, v), cell(api.View{Add: 9}, 3, v), cell(v, 0, api.View{Add: 9}))
		}
	}
	for n := 1; n <= 1000000; n += 7 {
		l = append(l, number(api.RecTag, n), number(api.RecBoot, n), value(api.View{Add: 2}, 2, n, 2, 2))
	}
	seen := make([][]byte, 0, len(l))
	of := make(map[string]api.Rec, len(l))
	for _, r := range l {
		b, e := Bytes(r)
		if e != api.OK {
			t.Fatalf("Bytes(%+v): %d", r, e)
		}
		if other, ok := of[string(b)]; ok && !Same([]api.Rec{r}, []api.Rec{other}) {
			t.Fatalf("%+v and %+v have the same Bytes", r, other)
		}
		of[string(b)] = r
		seen = append(seen, b)
	}
	slices.SortFunc(seen, bytes.Compare)
	seen = slices.CompactFunc(seen, bytes.Equal)
	for i := 1; i < len(seen); i++ {
		if bytes.HasPrefix(seen[i], seen[i-1]) {
			t.Fatalf("%v begins with %v", seen[i], seen[i-1])
		}
	}
	for _, x := range nans() {
		a, _ := Bytes(value(api.View{}, 1, 2, 3, x))
		b, _ := Bytes(value(api.View{}, 1, 2, 3, math.NaN()))
		if !bytes.Equal(a, b) {
			t.Errorf("%v and %v: what is not a number has one form", a, b)
		}
	}
}

// checkDisk tells whether a disk has these bytes, so many of them SAFE, and whether it is OFF.
func checkDisk(t *testing.T, what string, d *disk.Disk, held []byte, safe int, off bool) {
	t.Helper()
	if b := d.Bytes(); !bytes.Equal(b, held) || d.Safe() != safe || d.Off() != off {
		t.Errorf("%s: %v, %d safe, off %v; want %v, %d safe, off %v", what, b, d.Safe(), d.Off(), held, safe, off)
	}
}

// add adds records and tells whether that answers what it should.
func add(t *testing.T, d *disk.Disk, want api.Errno, l ...api.Rec) {
	t.Helper()
	if e := Add(d, l...); e != want {
		t.Errorf("Add(%+v) = %d, want %d", l, e, want)
	}
}

// put lets somebody else Append bytes, which are not SAFE.
func put(t *testing.T, d *disk.Disk, b ...byte) {
	t.Helper()
	if e := d.Append(b); e != api.OK {
		t.Fatalf("Append(%v) = %d", b, e)
	}
}

// P9.2 Add: one, several, and several calls behind one another: all bytes are there, and SAFE.
func TestAddSome(t *testing.T) {
	l := oneOfEach()
	for many := range len(l) + 1 {
		d := disk.New(api.MaxDisk)
		add(t, d, api.OK, l[:many]...)
		checkDisk(t, fmt.Sprint(many, " at once"), d, joined(l[:many]...), len(joined(l[:many]...)), false)
		add(t, d, api.OK, l[many:]...)
		checkDisk(t, fmt.Sprint(many, " and the others"), d, joined(l...), len(joined(l...)), false)
		if got := Read(d); !Same(got, l) {
			t.Errorf("Read = %+v", got)
		}
	}
	d := disk.New(api.MaxDisk)
	var all []api.Rec
	for _, r := range rights() {
		add(t, d, api.OK, r)
		all = append(all, r)
		if b := d.Bytes(); !bytes.HasSuffix(b, reckoned(r)) || d.Safe() != len(b) {
			t.Fatalf("behind %+v there are %d bytes, %d of them safe", r, len(b), d.Safe())
		}
	}
	checkDisk(t, "one by one", d, joined(all...), len(joined(all...)), false)
	// The same record may come twice.
	d = disk.New(api.MaxDisk)
	add(t, d, api.OK, l[0], l[0])
	add(t, d, api.OK, l[0])
	if got := Read(d); !Same(got, []api.Rec{l[0], l[0], l[0]}) {
		t.Errorf("Read = %+v", got)
	}
}

// P9.2 Add of nothing: nothing is Appended, and what is there is Synced; without power ErrPower.
func TestAddNothing(t *testing.T) {
	for _, none := range [][]api.Rec{nil, {}} {
		for _, room := range []int{0, 10, api.MaxDisk} {
			d := disk.New(room)
			add(t, d, api.OK, none...)
			checkDisk(t, "empty", d, nil, 0, false)
		}
		d := disk.New(3)
		put(t, d, 1, 2, 3)
		d.Limit(1)
		d.Fuse(0)
		add(t, d, api.OK, none...)
		checkDisk(t, "what somebody else Appended", d, []byte{1, 2, 3}, 3, false)
		dark := darkDisk(t)
		held, safe := dark.Bytes(), dark.Safe()
		add(t, dark, api.ErrPower, none...)
		checkDisk(t, "off", dark, held, safe, true)
	}
}

// darkDisk answers a disk that is OFF, with a record that is SAFE and a byte that isn't.
func darkDisk(t *testing.T) *disk.Disk {
	t.Helper()
	d := disk.New(api.MaxDisk)
	add(t, d, api.OK, number(api.RecTag, 7))
	d.Fuse(1)
	if e := d.Append([]byte{1, 2}); e != api.ErrPower || !d.Off() {
		t.Fatal("the disk has power")
	}
	return d
}

// P9.2 Add: one that isn't RIGHT, wherever it stands: nothing is written, and nothing more is SAFE.
func TestAddWrong(t *testing.T) {
	good := oneOfEach()
	for _, wrong := range wrongs() {
		for at := range 4 {
			l := slices.Insert(slices.Clone(good[:3]), at, wrong)
			d := disk.New(api.MaxDisk)
			add(t, d, api.OK, good[3])
			put(t, d, 9, 9)
			held, safe := d.Bytes(), d.Safe()
			add(t, d, api.ErrRec, l...)
			add(t, d, api.ErrRec, wrong)
			checkDisk(t, fmt.Sprintf("%+v at %d", wrong, at), d, held, safe, false)
		}
	}
	add(t, disk.New(api.MaxDisk), api.ErrRec, wrongs()...)
}

// P9.2 Add: ErrRec goes ahead of ErrFull and ErrPower, and no fuse goes.
func TestAddWrongFirst(t *testing.T) {
	good := number(api.RecBoot, 9)
	for _, l := range [][]api.Rec{{{}}, {good, {}}, {{}, good}} {
		add(t, disk.New(0), api.ErrRec, l...)
		dark := darkDisk(t)
		held, safe := dark.Bytes(), dark.Safe()
		add(t, dark, api.ErrRec, l...)
		checkDisk(t, "off", dark, held, safe, true)
		d := disk.New(api.MaxDisk)
		d.Fuse(3)
		add(t, d, api.ErrRec, l...)
		checkDisk(t, "with a fuse", d, nil, 0, false)
		add(t, d, api.ErrPower, good)
		checkDisk(t, "the fuse is as it was", d, reckoned(good)[:3], 0, true)
	}
}

// P9.2 Add: a disk without room for all of them: nothing is written, nothing more is SAFE.
func TestAddFull(t *testing.T) {
	l := oneOfEach()
	all := joined(l...)
	for room := range len(all) + 2 {
		d := disk.New(room)
		want, held, safe := api.ErrFull, []byte(nil), 0
		if room >= len(all) {
			want, held, safe = api.OK, all, len(all)
		}
		add(t, d, want, l...)
		checkDisk(t, fmt.Sprint("room ", room), d, held, safe, false)
	}
	first := reckoned(l[0])
	d := disk.New(len(first) + 2 + len(all) - 1)
	add(t, d, api.OK, l[0])
	put(t, d, 5, 6)
	add(t, d, api.ErrFull, l...)
	checkDisk(t, "some there already", d, append(first, 5, 6), len(first), false)
	d.Fuse(1)
	add(t, d, api.ErrFull, l...)
	checkDisk(t, "full goes ahead of the fuse", d, append(first, 5, 6), len(first), false)
}

// P9.2 Add: the power goes behind each byte: what could be written is there, and nothing more is SAFE.
func TestAddFuse(t *testing.T) {
	l := oneOfEach()
	all := joined(l...)
	head := number(api.RecTag, 8)
	start := reckoned(head)
	for fuse := range len(all) + 2 {
		d := disk.New(api.MaxDisk)
		add(t, d, api.OK, head)
		d.Fuse(fuse)
		what := fmt.Sprint("fuse ", fuse)
		if fuse >= len(all) {
			add(t, d, api.OK, l...)
			checkDisk(t, what, d, slices.Concat(start, all), len(start)+len(all), false)
			continue
		}
		add(t, d, api.ErrPower, l...)
		checkDisk(t, what, d, slices.Concat(start, all[:fuse]), len(start), true)
		add(t, d, api.ErrPower, l...)
		add(t, d, api.ErrPower, head)
		checkDisk(t, what+", and once more", d, slices.Concat(start, all[:fuse]), len(start), true)
	}
}

// P9.2 Add: a disk that is OFF.
func TestAddOff(t *testing.T) {
	d := darkDisk(t)
	held, safe := d.Bytes(), d.Safe()
	for _, r := range oneOfEach() {
		add(t, d, api.ErrPower, r)
	}
	add(t, d, api.ErrPower, oneOfEach()...)
	checkDisk(t, "off", d, held, safe, true)
	d.Limit(0)
	add(t, d, api.ErrPower, oneOfEach()...)
	checkDisk(t, "off, and full", d, held, safe, true)
	d.Crash(0)
	d.Limit(api.MaxDisk)
	add(t, d, api.OK, oneOfEach()...)
	if got := Read(d); len(got) != 7 {
		t.Errorf("behind the crash: %+v", got)
	}
}

// P9.2 Add: what somebody else Appended ahead is SAFE too behind OK.
func TestAddSyncs(t *testing.T) {
	d := disk.New(api.MaxDisk)
	r := number(api.RecTag, 1)
	put(t, d, reckoned(r)...)
	checkDisk(t, "Appended", d, reckoned(r), 0, false)
	add(t, d, api.OK, r)
	checkDisk(t, "Added", d, joined(r, r), 2*len(reckoned(r)), false)
}

// scan tells whether Scan answers these records and how many bytes they are.
func scan(t *testing.T, what string, b []byte, want ...api.Rec) {
	t.Helper()
	l, size := Scan(b)
	if !Same(l, want) || size != len(joined(want...)) {
		t.Errorf("%s: Scan(%v) = %+v, %d; want %+v, %d", what, b, l, size, want, len(joined(want...)))
	}
}

// P9.2 Scan: nothing, and whole records.
func TestScanWhole(t *testing.T) {
	scan(t, "nil", nil)
	scan(t, "nothing", []byte{})
	for _, r := range rights() {
		scan(t, "one", reckoned(r), r)
		scan(t, "twice", joined(r, r), r, r)
	}
	scan(t, "all", joined(rights()...), rights()...)
	r := rand.New(rand.NewSource(92))
	for range 500 {
		l := someRecs(r, r.Intn(20))
		scan(t, "some", joined(l...), l...)
	}
}

// P9.2 Scan: what comes back is what went in, field by field, not by Same alone.
func TestScanFields(t *testing.T) {
	for _, r := range rights() {
		l, _ := Scan(reckoned(r))
		if len(l) != 1 {
			t.Fatalf("%+v came back as %+v", r, l)
		}
		got := l[0]
		want := math.Float64bits(r.Entry.Value)
		if r.Entry.Value != r.Entry.Value {
			want = nanBits
		}
		if math.Float64bits(got.Entry.Value) != want {
			t.Errorf("the Value of %+v came back as %x", r, math.Float64bits(got.Entry.Value))
		}
		got.Entry.Value, r.Entry.Value = 0, 0
		if got != r {
			t.Errorf("%+v came back as %+v", r, got)
		}
	}
}

// P9.2 Scan: every number that a RecTag and a RecBoot can have, in one log, comes back soon.
func TestScanLong(t *testing.T) {
	var b []byte
	for n := 1; n <= 1000000; n += 3 {
		b = append(b, numbered(4, uint64(n))...)
		b = append(b, numbered(6, uint64(n))...)
	}
	for _, tail := range [][]byte{nil, {7}, bytes.Repeat([]byte{1, 8, 1, 4}, 5000000)} {
		l, size := Scan(slices.Concat(b, tail))
		if size != len(b) || len(l) != 2*333334 {
			t.Fatalf("%d records in %d bytes of %d", len(l), size, len(b))
		}
		for i, r := range l {
			if r != number(api.RecTag+i%2*2, 1+i/2*3) {
				t.Fatalf("record %d is %+v", i, r)
			}
		}
	}
}

// P9.2 Scan: cut off at each byte, with the rest in the spare room: as many as are whole.
func TestScanCutOff(t *testing.T) {
	l := append(oneOfEach(), value(api.View{Add: 63, Del: 63}, 3, 1000000, 5, math.NaN()), mark(api.View{}))
	all := joined(l...)
	for end := range len(all) + 1 {
		whole := 0
		for whole < len(l) && len(joined(l[:whole+1]...)) <= end {
			whole++
		}
		scan(t, fmt.Sprint("cut off at ", end), all[:end], l[:whole]...)
		scan(t, fmt.Sprint("cut off at ", end, ", zeros behind"), slices.Concat(all[:end], make([]byte, 70))[:end+70], l[:whole]...)
	}
}

// noRecords lists bytes that begin with no record, by why that is so.
func noRecords() map[string][]byte {
	m := map[string][]byte{
		"one byte":                        {1},
		"a zero":                          {0},
		"zeros":                           make([]byte, 100),
		"ones":                            bytes.Repeat([]byte{255}, 100),
		"a size of nine bytes":            {9, 0, 0, 0, 0, 0, 0, 0, 0, 8, 1, 4, 1, 1},
		"no text":                         {1, 200, 1, 4},
		"a text without anything":         {0, 1, 8, 1, 4, 1, 1},
		"a text of three bytes":           {1, 3, 0, 0, 0},
		"a text that is no frame":         {1, 8, 1, 4, 1, 1, 0, 0, 0, 0},
		"a frame without a text":          numbered(4, 1)[2:],
		"the numbers alone":               {1, 4, 1, 1},
		"a text without its sum":          {1, 4, 1, 4, 1, 1},
		"a frame of nothing":              framed(nil),
		"a frame of half a number":        framed([]byte{1}),
		"a frame of a number, and a half": framed([]byte{1, 4, 2, 1}),
		"a long frame":                    framed(append([]byte{1, 4, 1, 1}, make([]byte, 3900)...)),
		"a frame of 54 bytes":             framed(append([]byte{1, 4, 1, 1}, make([]byte, 50)...)),
		"a frame of 55 bytes":             framed(append([]byte{1, 4, 1, 1}, make([]byte, 51)...)),
		"a frame of 200 bytes":            framed(append([]byte{1, 4, 1, 1}, make([]byte, 196)...)),
		"a text that is too long":         framed(append([]byte{1, 4, 1, 1}, make([]byte, 5000)...)),
		"a sum the other way round":       {1, 8, 1, 4, 1, 1, 0xF0, 0xED, 0x11, 0x72},
	}
	for _, kind := range []uint64{0, 7, 8, 255, 256, 257, 260, 1 << 32, 1<<32 + 1, 1<<32 + 4, 1 << 63, 1<<63 + 4, math.MaxUint64} {
		for many := range 7 {
			m[fmt.Sprint("kind ", kind, " with ", many)] = numbered(slices.Concat([]uint64{kind}, slices.Repeat([]uint64{1}, many))...)
		}
	}
	for kind, want := range map[uint64]int{1: 5, 2: 3, 3: 1, 4: 1, 5: 2, 6: 1} {
		for many := range 9 {
			if many != want {
				m[fmt.Sprint("kind ", kind, " with ", many)] = numbered(slices.Concat([]uint64{kind}, slices.Repeat([]uint64{1}, many))...)
				m[fmt.Sprint("kind ", kind, " with zeros, ", many)] = numbered(slices.Concat([]uint64{kind}, slices.Repeat([]uint64{1}, min(many, want)), make([]uint64, max(0, many-want)))...)
			}
		}
	}
	return m
}

// wrongNumbers lists the numbers of what isn't RIGHT.
func wrongNumbers() [][]uint64 {
	var l [][]uint64
	for _, name := range []uint64{4096, 4097, 1 << 16, 1 << 32, 1<<32 + 1, 1<<63 + 1, math.MaxUint64, math.MaxUint64 - 4094} {
		l = append(l, []uint64{1, name, 1, 1, 1, 1}, []uint64{2, name, 1, 1}, []uint64{2, 1, 1, name}, []uint64{3, name},
			[]uint64{5, name, 1}, []uint64{5, 1, name})
	}
	l = append(l, []uint64{2, 1, 1, 0}, []uint64{2, 0, 0, 0}, []uint64{5, 1, 0}, []uint64{5, 0, 0})
	for _, node := range []uint64{6, 7, 256, 1 << 32, 1<<32 + 1, 1 << 63, math.MaxUint64} {
		l = append(l, []uint64{2, 1, node, 1}, []uint64{1, 1, 1, 1, node, 1}, []uint64{1, 1, node, 1, 1, 1})
	}
	l = append(l, []uint64{1, 1, 4, 1, 1, 1}, []uint64{1, 1, 1, 0, 0, 1}, []uint64{1, 1, 1, 0, 1, 1})
	for _, n := range []uint64{0, 1000001, 1 << 31, 1 << 32, 1<<32 + 1, 1<<63 + 1, math.MaxUint64} {
		l = append(l, []uint64{4, n}, []uint64{6, n}, []uint64{1, 1, 1, n, 1, 1})
	}
	for _, x := range append(nans()[1:], -math.NaN()) {
		if bits := math.Float64bits(x); bits != nanBits {
			l = append(l, []uint64{1, 1, 1, 1, 1, bits})
		}
	}
	return l
}

// P9.2 Scan: what is no record, alone, behind records, and ahead of them.
func TestScanNoRecord(t *testing.T) {
	m := noRecords()
	for _, nums := range wrongNumbers() {
		m[fmt.Sprint("the numbers ", nums)] = numbered(nums...)
	}
	l := oneOfEach()
	for what, b := range m {
		scan(t, what, b)
		scan(t, what+", ahead of records", slices.Concat(b, joined(l...)))
		for many := range len(l) + 1 {
			scan(t, what+", among records", slices.Concat(joined(l[:many]...), b, joined(l[many:]...)), l[:many]...)
		}
	}
	// The numbers on which the wrong ones are built are right: so each is wrong by what it says.
	scan(t, "right numbers", slices.Concat(numbered(1, 1, 1, 1, 1, 1), numbered(2, 1, 1, 1), numbered(3, 1), numbered(4, 1), numbered(5, 1, 1), numbered(6, 1)),
		value(api.View{Del: 1}, 1, 1, 1, math.SmallestNonzeroFloat64), cell(api.View{Del: 1}, 1, api.View{Del: 1}), mark(api.View{Del: 1}),
		number(api.RecTag, 1), intent(api.View{Del: 1}, api.View{Del: 1}), number(api.RecBoot, 1))
	scan(t, "the one form", numbered(1, 1, 1, 1, 1, nanBits), value(api.View{Del: 1}, 1, 1, 1, math.NaN()))
}

// longer answers a number, of at most seven bytes, with a zero more than its FORM has.
func longer(n uint64) []byte {
	b := form(n)
	return slices.Concat([]byte{b[0] + 1, 0}, b[1:])
}

// P9.2 Scan: each number of a record in a longer form than its own, and its text's size.
func TestScanLongerForm(t *testing.T) {
	for _, nums := range [][]uint64{{1, 300, 2, 70000, 3, 12345}, {1, 0, 0, 1, 0, 0}, {2, 300, 0, 5}, {3, 0}, {3, 300}, {4, 1}, {4, 1000000}, {5, 0, 9}, {6, 256}} {
		right := numbered(nums...)
		if l, size := Scan(right); len(l) != 1 || size != len(right) {
			t.Fatalf("the numbers %v are no record", nums)
		}
		for at := range nums {
			var b []byte
			for i, n := range nums {
				if i == at {
					b = append(b, longer(n)...)
				} else {
					b = append(b, form(n)...)
				}
			}
			scan(t, fmt.Sprint(nums, ", longer at ", at), framed(b))
		}
		size := uint64(len(right) - 2)
		for _, head := range [][]byte{longer(size), {3, 0, 0, byte(size)}, {8, 0, 0, 0, 0, 0, 0, 0, byte(size)}} {
			scan(t, fmt.Sprint(nums, ", a size ", head), slices.Concat(head, right[2:]))
			scan(t, fmt.Sprint(nums, " behind itself, a size ", head), slices.Concat(numbered(4, 3), head, right[2:]), number(api.RecTag, 3))
		}
	}
}

// The chapter's example: a record of which one bit is turned isn't there, nor are those behind it.
func TestScanTurned(t *testing.T) {
	l := append(oneOfEach(), rights()[60], value(api.View{}, 0, 1, 0, math.NaN()), mark(api.View{}), number(api.RecBoot, 1))
	all := joined(l...)
	at := 0
	for i, r := range l {
		size := len(reckoned(r))
		for bit := 8 * at; bit < 8*(at+size); bit++ {
			b := slices.Clone(all)
			b[bit/8] ^= 1 << (bit % 8)
			scan(t, fmt.Sprint("bit ", bit, " turned"), b, l[:i]...)
			d := disk.New(api.MaxDisk)
			put(t, d, b...)
			if got := Read(d); !Same(got, l[:i]) {
				t.Errorf("bit %d turned: Read = %+v", bit, got)
			}
		}
		at += size
	}
	r := rand.New(rand.NewSource(93))
	for _, rec := range someRecs(r, 2000) {
		b := joined(rec, l[0])
		bit := r.Intn(8 * len(reckoned(rec)))
		b[bit/8] ^= 1 << (bit % 8)
		scan(t, fmt.Sprint(rec, ", bit ", bit, " turned"), b)
	}
}

// P9.2 Scan: whatever the bytes are, it answers just those records that they begin with.
func TestScanAnyBytes(t *testing.T) {
	r := rand.New(rand.NewSource(94))
	for range 20000 {
		b := joined(someRecs(r, r.Intn(5))...)
		for range r.Intn(4) {
			if len(b) > 0 {
				at := r.Intn(len(b))
				b = slices.Replace(b, at, min(len(b), at+r.Intn(3)), byte(r.Intn(10)))
			}
		}
		l, size := Scan(b)
		if size > len(b) || !bytes.Equal(b[:size], joined(l...)) {
			t.Fatalf("Scan(%v) = %+v, %d", b, l, size)
		}
		for _, rec := range l {
			if !Right(rec) {
				t.Fatalf("Scan(%v) found %+v", b, rec)
			}
		}
		if more, _ := Scan(b[size:]); len(more) > 0 {
			t.Fatalf("Scan(%v) = %+v, and behind %d bytes there are more", b, l, size)
		}
	}
}

// P9.2 Scan: any two bytes where a small record says how long it is.
func TestScanEverySize(t *testing.T) {
	right := numbered(4, 1)
	for first := range 256 {
		for second := range 256 {
			b := slices.Concat([]byte{byte(first), byte(second)}, right[2:], make([]byte, 300))
			want := 0
			if first == 1 && second == 8 {
				want = 1
			}
			if l, size := Scan(b); len(l) != want || size != 10*want {
				t.Fatalf("sizes %d, %d: %+v, %d", first, second, l, size)
			}
		}
	}
}

// P9.2 Read: an empty disk, and one with records, Synced or not, with power or without.
func TestRead(t *testing.T) {
	if l := Read(disk.New(0)); len(l) != 0 {
		t.Errorf("%+v", l)
	}
	if l := Read(disk.New(api.MaxDisk)); len(l) != 0 {
		t.Errorf("%+v", l)
	}
	l := oneOfEach()
	d := disk.New(api.MaxDisk)
	put(t, d, joined(l[:2]...)...)
	if got := Read(d); !Same(got, l[:2]) {
		t.Errorf("not Synced: %+v", got)
	}
	checkDisk(t, "behind Read", d, joined(l[:2]...), 0, false)
	add(t, d, api.OK, l[2])
	d.Fuse(len(joined(l[3], l[4])) + 3)
	add(t, d, api.ErrPower, l[3:]...)
	if got := Read(d); !Same(got, l[:5]) {
		t.Errorf("without power: %+v", got)
	}
	checkDisk(t, "behind Read", d, joined(l...)[:len(joined(l[:5]...))+3], len(joined(l[:3]...)), true)
}

// P9.2 Read: behind bytes that somebody else Appended nothing is found, till they are Cut off.
func TestReadBehindOthers(t *testing.T) {
	l := oneOfEach()
	for what, b := range noRecords() {
		d := disk.New(api.MaxDisk)
		put(t, d, b...)
		add(t, d, api.OK, l...)
		if got := Read(d); len(got) != 0 {
			t.Errorf("%s ahead of all: %+v", what, got)
		}
		d = disk.New(api.MaxDisk)
		add(t, d, api.OK, l[:3]...)
		put(t, d, b...)
		if got := Read(d); !Same(got, l[:3]) {
			t.Errorf("%s behind all: %+v", what, got)
		}
		add(t, d, api.OK, l[3:]...)
		if got := Read(d); !Same(got, l[:3]) {
			t.Errorf("%s in the midst: %+v", what, got)
		}
		_, size := Scan(d.Bytes())
		d.Cut(size)
		add(t, d, api.OK, l[3:]...)
		if got := Read(d); !Same(got, l) {
			t.Errorf("%s, Cut off: %+v", what, got)
		}
	}
}

// P9.3: behind a Crash with any keep all that was OK is there, and of those behind some, from the first one on.
func TestCrash(t *testing.T) {
	l := oneOfEach()
	old := append(rights()[10:13], value(api.View{Add: 1}, 0, 5, 5, math.NaN()))
	start, all := joined(old...), joined(l...)
	for fuse := range len(all) {
		for _, keep := range []int{math.MinInt, -1, 0, 1, 2, fuse / 2, fuse - 1, fuse, fuse + 1, math.MaxInt} {
			d := disk.New(api.MaxDisk)
			add(t, d, api.OK, old[:2]...)
			add(t, d, api.OK, old[2:]...)
			d.Fuse(fuse)
			add(t, d, api.ErrPower, l...)
			d.Crash(keep)
			kept := max(0, min(keep, fuse))
			whole := 0
			for len(joined(l[:whole+1]...)) <= kept {
				whole++
			}
			checkDisk(t, fmt.Sprint("fuse ", fuse, " keep ", keep), d, slices.Concat(start, all[:kept]), len(start)+kept, false)
			if got := Read(d); !Same(got, slices.Concat(old, l[:whole])) {
				t.Fatalf("fuse %d, keep %d: Read = %+v", fuse, keep, got)
			}
		}
	}
	for _, keep := range []int{math.MinInt, -1, 0, 1, 100, math.MaxInt} {
		d := disk.New(api.MaxDisk)
		add(t, d, api.OK, l...)
		d.Crash(keep)
		if got := Read(d); !Same(got, l) {
			t.Errorf("keep %d: Read = %+v", keep, got)
		}
		d = disk.New(api.MaxDisk)
		d.Crash(keep)
		if got := Read(d); len(got) != 0 {
			t.Errorf("nothing, keep %d: Read = %+v", keep, got)
		}
	}
}

// P9.3: long runs of Adds, power that goes, crashes, and what is no whole record Cut off behind them.
func TestCrashRuns(t *testing.T) {
	r := rand.New(rand.NewSource(95))
	for range 300 {
		d := disk.New(500 + r.Intn(1000))
		var sure []api.Rec
		for range 30 {
			l := someRecs(r, r.Intn(6))
			if r.Intn(2) == 0 {
				d.Fuse(r.Intn(120))
			}
			before := d.Bytes()
			e := Add(d, l...)
			if e == api.OK {
				sure = append(sure, l...)
			}
			if e == api.ErrFull && !bytes.Equal(d.Bytes(), before) {
				t.Fatal("something was written, and the disk is full")
			}
			if e != api.ErrPower {
				l = nil
			}
			if e == api.ErrPower || r.Intn(4) == 0 {
				d.Crash(r.Intn(120) - 10)
			}
			got := Read(d)
			if len(got) < len(sure) || !Same(got[:len(sure)], sure) {
				t.Fatalf("%+v were sure, and %+v are there", sure, got)
			}
			if more := got[len(sure):]; len(more) > len(l) || !Same(more, l[:len(more)]) {
				t.Fatalf("behind those that were sure are %+v of %+v", more, l)
			}
			_, size := Scan(d.Bytes())
			d.Cut(size)
			sure = got
		}
	}
}

// P9.2 Same: lists of unlike lengths and orders.
func TestSameLists(t *testing.T) {
	l := oneOfEach()
	for i, c := range []struct {
		a, b []api.Rec
		want bool
	}{
		{nil, nil, true}, {nil, []api.Rec{}, true}, {[]api.Rec{}, nil, true}, {[]api.Rec{}, []api.Rec{}, true},
		{nil, []api.Rec{{}}, false}, {[]api.Rec{{}}, nil, false}, {[]api.Rec{{}}, []api.Rec{{}}, true},
		{l, slices.Clone(l), true}, {l, l[1:], false}, {l[1:], l, false}, {l, l[:5], false}, {l[:5], l, false},
		{[]api.Rec{l[0], l[1]}, []api.Rec{l[1], l[0]}, false}, {[]api.Rec{l[0], l[0], l[1]}, []api.Rec{l[0], l[1], l[1]}, false},
		{[]api.Rec{l[0], l[0]}, []api.Rec{l[0]}, false}, {[]api.Rec{l[2]}, []api.Rec{l[3]}, false},
	} {
		if Same(c.a, c.b) != c.want {
			t.Errorf("%d: Same(%+v, %+v) = %v", i, c.a, c.b, !c.want)
		}
	}
	all := slices.Concat(rights(), wrongs())
	all = slices.DeleteFunc(all, func(r api.Rec) bool { return r.Entry.Value != r.Entry.Value })
	for _, a := range all {
		for _, b := range all {
			want := a == b && math.Signbit(a.Entry.Value) == math.Signbit(b.Entry.Value)
			if Same([]api.Rec{a}, []api.Rec{b}) != want || Same([]api.Rec{l[1], a, l[0]}, []api.Rec{l[1], b, l[0]}) != want {
				t.Fatalf("Same of %+v and %+v = %v", a, b, !want)
			}
		}
	}
}

// P9.2 Same: Values as layer 1 has them: all that are not a number are one, both zeros are two.
func TestSameValues(t *testing.T) {
	with := func(kind int, x float64) []api.Rec {
		r := value(api.View{Add: 1}, 1, 2, 3, x)
		r.Kind = kind
		return []api.Rec{number(api.RecTag, 2), r}
	}
	for _, kind := range []int{api.RecValue, api.RecMark, 0} {
		for i, x := range oddValues() {
			for k, y := range oddValues() {
				if Same(with(kind, x), with(kind, y)) != (i == k) {
					t.Errorf("kind %d: Same of %v and %v = %v", kind, x, y, i != k)
				}
			}
		}
		for _, x := range nans() {
			for _, y := range nans() {
				if !Same(with(kind, x), with(kind, y)) {
					t.Errorf("kind %d: %x and %x are not the same", kind, math.Float64bits(x), math.Float64bits(y))
				}
			}
			if Same(with(kind, x), with(kind, 0)) || Same(with(kind, math.Inf(1)), with(kind, x)) {
				t.Errorf("kind %d: %x is a number", kind, math.Float64bits(x))
			}
		}
	}
}

// P9.2 Same: one field that is unlike is enough, in the first, a middle or the last record, RIGHT or not.
func TestSameUnlike(t *testing.T) {
	turns := []func(r *api.Rec){
		func(r *api.Rec) { r.Kind++ },
		func(r *api.Rec) { r.View.Add++ },
		func(r *api.Rec) { r.View.Del++ },
		func(r *api.Rec) { r.Cell.Node++ },
		func(r *api.Rec) { r.Cell.Change.Add++ },
		func(r *api.Rec) { r.Cell.Change.Del++ },
		func(r *api.Rec) { r.Entry.Key++ },
		func(r *api.Rec) { r.Entry.Tag.Num++ },
		func(r *api.Rec) { r.Entry.Tag.Node++ },
		func(r *api.Rec) { r.Entry.Value = 77 },
		func(r *api.Rec) { r.N++ },
	}
	nan := value(api.View{}, 1, 2, 3, math.NaN())
	for _, l := range [][]api.Rec{oneOfEach(), wrongs(), {nan, nan, nan}} {
		for i := range l {
			for k, turn := range turns {
				other := slices.Clone(l)
				turn(&other[i])
				if Same(l, other) || Same(other, l) {
					t.Errorf("turn %d of %+v", k, l[i])
				}
			}
		}
	}
}

// roomy answers a copy of a list with spare room, which is filled, and all of that memory.
func roomy[T any](l []T, fill T) (part, whole []T) {
	whole = slices.Concat(l, slices.Repeat([]T{fill}, 40))
	return whole[:len(l)], whole
}

// spoil writes over all of a list, spare room included.
func spoil[T any](l []T, fill T) {
	l = l[:cap(l)]
	for i := range l {
		l[i] = fill
	}
}

// DOC.md, Rules: what is handed in stays as it is, spare room too, and isn't kept.
func TestArguments(t *testing.T) {
	fill := api.Rec{Kind: 99, N: 99}
	l := append(oneOfEach(), value(api.View{}, 1, 1, 1, 6))
	for many := range len(l) + 1 {
		recs, whole := roomy(l[:many], fill)
		was := slices.Clone(whole)
		d := disk.New(api.MaxDisk)
		add(t, d, api.OK, recs...)
		Same(recs, recs)
		add(t, disk.New(1), map[bool]api.Errno{true: api.OK, false: api.ErrFull}[many == 0], recs...)
		if !slices.Equal(whole, was) {
			t.Fatalf("records became %+v", whole)
		}
		spoil(recs, fill)
		if got := Read(d); !Same(got, l[:many]) {
			t.Fatalf("records are kept: %+v", got)
		}

		b, room := roomy(joined(l[:many]...), 0xEE)
		old := slices.Clone(room)
		got, size := Scan(b)
		if !bytes.Equal(room, old) {
			t.Fatalf("bytes became %v", room)
		}
		spoil(b, 0xFF)
		if !Same(got, l[:many]) || size != len(b) {
			t.Fatalf("bytes are kept: %+v", got)
		}
	}
}

// DOC.md, Rules: an answer is the caller's own, spare room too.
func TestAnswers(t *testing.T) {
	fill := api.Rec{Kind: 99, N: 99}
	l := oneOfEach()
	for _, r := range l {
		one, _ := Bytes(r)
		other, _ := Bytes(r)
		spoil(other, 0xFF)
		again, e := Bytes(r)
		if e != api.OK || !bytes.Equal(one, reckoned(r)) || !bytes.Equal(again, reckoned(r)) {
			t.Errorf("Bytes of %+v became %v and %v", r, one, again)
		}
	}
	b := joined(l...)
	one, _ := Scan(b)
	other, _ := Scan(b)
	spoil(other, fill)
	again, _ := Scan(b)
	if !Same(one, l) || !Same(again, l) || !bytes.Equal(b, joined(l...)) {
		t.Error("what Scan answers is shared")
	}
	d := disk.New(api.MaxDisk)
	add(t, d, api.OK, l...)
	one, other = Read(d), Read(d)
	spoil(other, fill)
	if !Same(one, l) || !Same(Read(d), l) {
		t.Error("what Read answers is shared")
	}
	checkDisk(t, "behind Read", d, joined(l...), len(joined(l...)), false)
}

// P1 and P2: long lists come to an end soon, and to the same twice.
func TestLongLists(t *testing.T) {
	long := slices.Repeat(oneOfEach(), 100000)
	d := disk.New(api.MaxDisk)
	for range 2 {
		add(t, d, api.ErrFull, long...)
		add(t, d, api.ErrRec, append(long, api.Rec{})...)
	}
	checkDisk(t, "behind long lists", d, nil, 0, false)
	if !Same(long, slices.Clone(long)) || Same(long, long[1:]) {
		t.Error("Same of long lists")
	}
	fits := slices.Repeat([]api.Rec{number(api.RecTag, 1)}, api.MaxDisk/10)
	add(t, d, api.OK, fits...)
	add(t, d, api.ErrFull, fits[0])
	add(t, d, api.OK)
	if got := Read(d); !Same(got, fits) || d.Safe() != api.MaxDisk {
		t.Errorf("%d records, %d bytes safe", len(got), d.Safe())
	}
}
