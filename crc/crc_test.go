package crc

import (
	"bytes"
	"hash/crc32"
	"math"
	"math/bits"
	"math/rand"
	"slices"
	"testing"

	"ropeway/api"
)

// sums holds bytes and sums that are known from elsewhere.
var sums = []struct {
	text string
	sum  uint32
}{
	{"", 0},
	{"123456789", 0xCBF43926},
	{"a", 0xE8B7BE43},
	{"abc", 0x352441C2},
	{"The quick brown fox jumps over the lazy dog", 0x414FA339},
	{"\x00", 0xD202EF8D},
	{"\x00\x00\x00\x00", 0x2144DF1C},
	{"\xFF", 0xFF000000},
	{"\xFF\xFF\xFF\xFF", 0xFFFFFFFF},
}

// masks holds masks of each width, with one bit, all bits, or the first and the last alone.
func masks() []uint32 {
	l := []uint32{0xA5, 0x8001, 0xDEADBEEF, 0x80000002, 0xFFFFFFFE, 0xEDB88320, 0x82608EDB, 6}
	for k := range 32 {
		l = append(l, 1<<k, 1<<k|1, 1<<(k+1)-1)
	}
	return l
}

// filled makes bytes in which no two neighbours are the same.
func filled(size int) []byte {
	l := make([]byte, size)
	for i := range l {
		l[i] = byte(i*7 + 1)
	}
	return l
}

// roomy answers the same bytes with spare room behind them, which holds 0xEE, and the whole of that memory.
func roomy(l []byte) (part, whole []byte) {
	whole = slices.Concat(l, bytes.Repeat([]byte{0xEE}, 64))
	return whole[:len(l)], whole
}

// spoil writes over all of a list, spare room included.
func spoil(l []byte) {
	l = l[:cap(l)]
	for i := range l {
		l[i] ^= 0xFF
	}
}

// turned tells bit by bit what Burst is to answer; places far behind the end are told first, since there at + k could wrap round.
func turned(b []byte, at int, mask uint32) []byte {
	out := slices.Clone(b)
	for k := range 32 {
		if mask&(1<<k) == 0 {
			continue
		}
		if at < 0 || at > 8*len(b) || at+k >= 8*len(b) {
			return slices.Clone(b)
		}
		n := at + k
		out[n/8] ^= byte(1 << (n % 8))
	}
	return out
}

// P3.1 Of
func TestOfKnown(t *testing.T) {
	for _, c := range sums {
		if sum := Of([]byte(c.text)); sum != c.sum {
			t.Errorf("Of(%q) = %08X, want %08X", c.text, sum, c.sum)
		}
	}
}

// P3.1 Of: each byte alone, and behind another one, and longer ones.
func TestOfMany(t *testing.T) {
	for x := range 1 << 16 {
		b := []byte{byte(x >> 8), byte(x)}
		if sum, want := Of(b), crc32.ChecksumIEEE(b); sum != want {
			t.Fatalf("Of(%v) = %08X, want %08X", b, sum, want)
		}
		if sum, want := Of(b[1:]), crc32.ChecksumIEEE(b[1:]); sum != want {
			t.Fatalf("Of(%v) = %08X, want %08X", b[1:], sum, want)
		}
	}
	for _, size := range []int{3, 4, 5, 63, 64, 255, 256, 4000, 60000} {
		b := filled(size)
		if sum, want := Of(b), crc32.ChecksumIEEE(b); sum != want {
			t.Errorf("Of of %d bytes = %08X, want %08X", size, sum, want)
		}
	}
}

// P3.1 Of: nothing at all, be it no parts, a nil one or empty ones.
func TestOfNothing(t *testing.T) {
	for _, parts := range [][][]byte{nil, {}, {nil}, {{}}, {nil, {}, nil}} {
		if sum := Of(parts...); sum != 0 {
			t.Errorf("Of(%v) = %08X", parts, sum)
		}
	}
}

// P3.1 Of: parts have the sum of what they are one behind the other, wherever it is cut.
func TestOfParts(t *testing.T) {
	b := []byte("123456789")
	for i := range len(b) + 1 {
		for j := i; j <= len(b); j++ {
			if sum := Of(b[:i], b[i:j], b[j:]); sum != 0xCBF43926 {
				t.Errorf("cut at %d and %d: %08X", i, j, sum)
			}
			if sum := Of(nil, b[:i], nil, []byte{}, b[i:j], b[j:], nil); sum != 0xCBF43926 {
				t.Errorf("cut at %d and %d, with empty parts: %08X", i, j, sum)
			}
		}
	}
	single := make([][]byte, 0, 4000)
	for _, x := range filled(4000) {
		single = append(single, []byte{x})
	}
	if sum, want := Of(single...), crc32.ChecksumIEEE(filled(4000)); sum != want {
		t.Errorf("one byte a part: %08X, want %08X", sum, want)
	}
	if Of([]byte("ab"), []byte("cd")) == Of([]byte("cd"), []byte("ab")) {
		t.Error("the order of the parts doesn't count")
	}
}

// P3.2 Seal
func TestSeal(t *testing.T) {
	for _, c := range sums {
		want := append([]byte(c.text), byte(c.sum), byte(c.sum>>8), byte(c.sum>>16), byte(c.sum>>24))
		if f := Seal([]byte(c.text)); !bytes.Equal(f, want) {
			t.Errorf("Seal(%q) = %v, want %v", c.text, f, want)
		}
	}
	if f := Seal([]byte("123456789")); !bytes.Equal(f[9:], []byte{0x26, 0x39, 0xF4, 0xCB}) {
		t.Errorf("the lowest isn't first: %x", f[9:])
	}
	for _, none := range [][]byte{nil, {}} {
		if f := Seal(none); !bytes.Equal(f, []byte{0, 0, 0, 0}) {
			t.Errorf("Seal of nothing = %v", f)
		}
	}
}

// P3.2 Open: what Seal made.
func TestOpenOfSeal(t *testing.T) {
	for _, size := range []int{0, 1, 2, 3, 4, 5, 8, 100, 4000, 60000} {
		b := filled(size)
		got, err := Open(Seal(b))
		if err != api.OK || !bytes.Equal(got, b) {
			t.Errorf("%d bytes: %v, %d bytes back", size, err, len(got))
		}
	}
	for x := range 256 {
		b := []byte{byte(x)}
		if got, err := Open(Seal(b)); err != api.OK || !bytes.Equal(got, b) {
			t.Errorf("Open(Seal(%v)) = %v, %v", b, got, err)
		}
		twice, err := Open(Seal(Seal(b)))
		if err != api.OK || !bytes.Equal(twice, Seal(b)) {
			t.Errorf("a frame in a frame: %v, %v", twice, err)
		}
	}
}

// P3.2 Open: bytes that are no frame.
func TestOpenOfNoFrame(t *testing.T) {
	sealed := Seal([]byte("123456789"))
	bad := [][]byte{
		nil, {}, {0}, {0, 0}, {0, 0, 0},
		{0, 0, 0, 1}, {1, 0, 0, 0}, {0, 1, 0, 0}, {0, 0, 1, 0}, {255, 255, 255, 255},
		{0, 0, 0, 0, 0},
		// All but the order is right: the sum's highest byte first, or the sum ahead.
		append([]byte("123456789"), 0xCB, 0xF4, 0x39, 0x26),
		append([]byte{0x26, 0x39, 0xF4, 0xCB}, "123456789"...),
		// The sum with its bits not turned at the end.
		append([]byte("123456789"), 0xD9, 0xC6, 0x0B, 0x34),
		append(slices.Clone(sealed), 0),
		append([]byte{0}, sealed...),
		append(slices.Clone(sealed), sealed...),
	}
	for cut := range sealed {
		bad = append(bad, sealed[:cut])
	}
	for _, b := range bad {
		if got, err := Open(b); err != api.ErrFrame || len(got) != 0 {
			t.Errorf("Open(%v) = %v, %v", b, got, err)
		}
	}
}

// P3.2 Open: of all frames whose sums have the same last byte, one alone opens.
func TestOpenIsSealBack(t *testing.T) {
	for _, head := range [][]byte{{}, {5}} {
		seal := Seal(head)
		for x := range 1 << 24 {
			f := append(slices.Clone(head), byte(x), byte(x>>8), byte(x>>16), seal[len(head)+3])
			_, err := Open(f)
			if (err == api.OK) != bytes.Equal(f, seal) {
				t.Fatalf("Open(%v): %v", f, err)
			}
		}
	}
}

// P3.3 Burst: every bit of some bytes, alone.
func TestBurstOfOneBit(t *testing.T) {
	b := filled(9)
	for at := range 8 * len(b) {
		want := slices.Clone(b)
		want[at/8] ^= byte(1 << (at % 8))
		if x := Burst(b, at, 1); !bytes.Equal(x, want) {
			t.Errorf("Burst at %d = %v, want %v", at, x, want)
		}
	}
	for k := range 32 {
		want := make([]byte, 8)
		want[(3+k)/8] = byte(1 << ((3 + k) % 8))
		if x := Burst(make([]byte, 8), 3, 1<<k); !bytes.Equal(x, want) {
			t.Errorf("bit %d of mask: %v, want %v", k, x, want)
		}
	}
}

// P3.3 Burst: the lowest bits go first, across bytes.
func TestBurstInOrder(t *testing.T) {
	for _, c := range []struct {
		at   int
		mask uint32
		want []byte
	}{
		{0, 0x04030201, []byte{1, 2, 3, 4, 0, 0}},
		{8, 0x04030201, []byte{0, 1, 2, 3, 4, 0}},
		{16, 0x04030201, []byte{0, 0, 1, 2, 3, 4}},
		{4, 0xFF, []byte{0xF0, 0x0F, 0, 0, 0, 0}},
		{7, 3, []byte{0x80, 1, 0, 0, 0, 0}},
		{1, 0x80000001, []byte{2, 0, 0, 0, 1, 0}},
		{47, 1, []byte{0, 0, 0, 0, 0, 0x80}},
	} {
		if x := Burst(make([]byte, 6), c.at, c.mask); !bytes.Equal(x, c.want) {
			t.Errorf("Burst at %d of %X = %v, want %v", c.at, c.mask, x, c.want)
		}
		ones := bytes.Repeat([]byte{0xFF}, 6)
		if x := Burst(Burst(ones, c.at, c.mask), c.at, c.mask); !bytes.Equal(x, ones) {
			t.Errorf("twice at %d of %X: %v", c.at, c.mask, x)
		}
	}
}

// P3.3 Burst: each mask at each place, from ahead of the bytes to behind their end.
func TestBurstEverywhere(t *testing.T) {
	for size := range 7 {
		b := filled(size)
		for at := -40; at <= 8*size+40; at++ {
			for _, mask := range masks() {
				if x, want := Burst(b, at, mask), turned(b, at, mask); !bytes.Equal(x, want) {
					t.Fatalf("Burst(%v, %d, %X) = %v, want %v", b, at, mask, x, want)
				}
			}
		}
	}
}

// P3.3 Burst: the last bit is turned, the one behind it isn't there.
func TestBurstAtTheEnd(t *testing.T) {
	b := filled(5)
	for _, mask := range masks() {
		last := 8*len(b) - bits.Len32(mask)
		if bytes.Equal(Burst(b, last, mask), b) {
			t.Errorf("%X at the very end turned nothing", mask)
		}
		if x := Burst(b, last+1, mask); !bytes.Equal(x, b) {
			t.Errorf("%X one behind the end: %v", mask, x)
		}
	}
	if x := Burst(b, 38, 7); !bytes.Equal(x, b) {
		t.Errorf("those ahead of the end were turned: %v", x)
	}
}

// P3.3 Burst: at is any number, and a mask without bits turns none.
func TestBurstFarAway(t *testing.T) {
	b := filled(6)
	for _, at := range []int{-1, -8, -31, -32, -48, math.MinInt, math.MinInt + 1, math.MinInt + 31,
		math.MaxInt, math.MaxInt - 1, math.MaxInt - 31, math.MaxInt - 32, math.MaxInt / 8, 1 << 32, 1 << 35, 1 << 61} {
		for _, mask := range append(masks(), 0) {
			if x := Burst(b, at, mask); !bytes.Equal(x, b) {
				t.Errorf("Burst at %d of %X = %v", at, mask, x)
			}
			if x := Burst(nil, at, mask); len(x) != 0 {
				t.Errorf("Burst of nothing at %d of %X = %v", at, mask, x)
			}
		}
	}
	for at := range 60 {
		if x := Burst(b, at, 0); !bytes.Equal(x, b) {
			t.Errorf("no bits at %d: %v", at, x)
		}
	}
}

// P3.4
func TestBurstFrameIsNone(t *testing.T) {
	for _, size := range []int{0, 1, 2, 7, 33} {
		b := filled(size)
		f := Seal(b)
		for at := -2; at <= 8*len(f)+2; at++ {
			for _, mask := range masks() {
				holdsBurst(t, b, f, at, mask)
			}
		}
	}
}

// P3.4: masks as they come, in frames as they come.
func TestBurstFrameAtRandom(t *testing.T) {
	r := rand.New(rand.NewSource(3))
	for range 20000 {
		b := make([]byte, r.Intn(60))
		r.Read(b)
		f := Seal(b)
		holdsBurst(t, b, f, r.Intn(8*len(f)+9)-4, r.Uint32()|1<<r.Intn(32))
	}
}

// holdsBurst asks that a frame of b with a Burst be no frame, unless it is as it was.
func holdsBurst(t *testing.T, b, frame []byte, at int, mask uint32) {
	t.Helper()
	x := Burst(frame, at, mask)
	got, err := Open(x)
	if bytes.Equal(x, frame) {
		if err != api.OK || !bytes.Equal(got, b) {
			t.Errorf("%v as it was, at %d, %X: %v, %v", frame, at, mask, got, err)
		}
		return
	}
	if err != api.ErrFrame || len(got) != 0 {
		t.Errorf("%v with %X at %d is a frame: %v, %v", frame, mask, at, got, err)
	}
}

// DOC.md, Rules: what is handed in stays as it is, spare room too.
func TestArgumentsStay(t *testing.T) {
	for _, b := range [][]byte{{}, []byte("123456789"), Seal([]byte("123456789"))} {
		part, whole := roomy(b)
		was := slices.Clone(whole)
		Of(part, part[:0], part)
		Seal(part)
		Open(part)
		Burst(part, 0, 0xF0F0F0F0)
		Burst(part, 8*len(part), 1)
		Burst(part, -1, 1)
		if !bytes.Equal(whole, was) {
			t.Errorf("%v became %v", was, whole)
		}
	}
}

// DOC.md, Rules: an answer shares no memory with an argument, spare room included.
func TestAnswersAreNew(t *testing.T) {
	calls := map[string]func([]byte) []byte{
		"Seal": Seal,
		"Open": func(b []byte) []byte {
			got, _ := Open(b)
			return got
		},
		"Burst": func(b []byte) []byte { return Burst(b, 3, 0x80000001) },
		"Burst of no bits": func(b []byte) []byte {
			return Burst(b, 0, 0)
		},
		"Burst ahead":  func(b []byte) []byte { return Burst(b, -1, 1) },
		"Burst behind": func(b []byte) []byte { return Burst(b, 8*len(b), 1) },
	}
	for name, call := range calls {
		for _, text := range []string{"", "a", "123456789"} {
			part, whole := roomy(Seal([]byte(text)))
			was := slices.Clone(whole)
			got, want := call(part), slices.Clone(call(part))
			spoil(whole)
			if !bytes.Equal(got, want) {
				t.Errorf("%s of %q kept its argument", name, text)
			}
			copy(whole, was)
			spoil(got)
			if !bytes.Equal(whole, was) {
				t.Errorf("%s of %q handed out its argument", name, text)
			}
		}
	}
}
