package wire

import (
	"bytes"
	"math"
	"slices"
	"testing"

	"ropeway/api"
)

// forms holds numbers and their FORMS: the first and the last of each size, and some between.
var forms = []struct {
	num  uint64
	form []byte
}{
	{0, []byte{0}},
	{1, []byte{1, 1}},
	{44, []byte{1, 44}},
	{1<<8 - 1, []byte{1, 255}},
	{1 << 8, []byte{2, 1, 0}},
	{300, []byte{2, 1, 44}},
	{1<<16 - 1, []byte{2, 255, 255}},
	{1 << 16, []byte{3, 1, 0, 0}},
	{0x00ABCDEF, []byte{3, 0xAB, 0xCD, 0xEF}},
	{1<<24 - 1, []byte{3, 255, 255, 255}},
	{1 << 24, []byte{4, 1, 0, 0, 0}},
	{1<<32 - 1, []byte{4, 255, 255, 255, 255}},
	{1 << 32, []byte{5, 1, 0, 0, 0, 0}},
	{1<<40 - 1, []byte{5, 255, 255, 255, 255, 255}},
	{1 << 40, []byte{6, 1, 0, 0, 0, 0, 0}},
	{1<<48 - 1, []byte{6, 255, 255, 255, 255, 255, 255}},
	{1 << 48, []byte{7, 1, 0, 0, 0, 0, 0, 0}},
	{1<<56 - 1, []byte{7, 255, 255, 255, 255, 255, 255, 255}},
	{1 << 56, []byte{8, 1, 0, 0, 0, 0, 0, 0, 0}},
	{0x0123456789ABCDEF, []byte{8, 0x01, 0x23, 0x45, 0x67, 0x89, 0xAB, 0xCD, 0xEF}},
	{1<<63 - 1, []byte{8, 127, 255, 255, 255, 255, 255, 255, 255}},
	{1 << 63, []byte{8, 128, 0, 0, 0, 0, 0, 0, 0}},
	{1<<64 - 1, []byte{8, 255, 255, 255, 255, 255, 255, 255, 255}},
}

// sizedTexts holds how long a text may be, and the FORM of that.
var sizedTexts = []struct {
	size int
	form []byte
}{
	{0, []byte{0}},
	{1, []byte{1, 1}},
	{255, []byte{1, 255}},
	{256, []byte{2, 1, 0}},
	{3999, []byte{2, 15, 159}},
	{4000, []byte{2, 15, 160}},
}

// noForms holds bytes that begin with no FORM: none, cut off, not in the one form, too long.
var noForms = [][]byte{
	nil,
	{},
	{1},
	{2}, {2, 1},
	{8}, {8, 1, 2, 3, 4, 5, 6, 7},
	{1, 0}, {1, 0, 1},
	{2, 0, 0}, {2, 0, 1}, {2, 0, 255},
	{8, 0, 0, 0, 0, 0, 0, 0, 0}, {8, 0, 255, 255, 255, 255, 255, 255, 255},
	{9}, {9, 1, 1, 1, 1, 1, 1, 1, 1, 1}, {9, 0, 1, 1, 1, 1, 1, 1, 1, 1},
	{10, 1, 1, 1, 1, 1, 1, 1, 1, 1, 1},
	{128, 1, 1}, {255, 1, 1},
}

// filled makes a text in which no two neighbours are the same.
func filled(size int) []byte {
	l := make([]byte, size)
	for i := range l {
		l[i] = byte(i*7 + 1)
	}
	return l
}

// roomy answers the same bytes with spare room behind them, which holds 0xEE, and the whole of that memory.
func roomy(l []byte) (part, whole []byte) {
	whole = slices.Concat(l, bytes.Repeat([]byte{0xEE}, 64))
	return whole[:len(l)], whole
}

// spoil writes over all of a list, spare room included.
func spoil(l []byte) {
	l = l[:cap(l)]
	for i := range l {
		l[i] ^= 0xFF
	}
}

// P2.1 Put
func TestPutOfOne(t *testing.T) {
	for _, c := range forms {
		for _, head := range [][]byte{nil, {}, {7}, {0, 9, 255}} {
			want := slices.Concat(head, c.form)
			if b := Put(head, c.num); !bytes.Equal(b, want) {
				t.Errorf("Put(%v, %d) = %v, want %v", head, c.num, b, want)
			}
		}
	}
}

// P2.1 Put: the chapter's example, none, and many.
func TestPutOfMany(t *testing.T) {
	if b := Put(nil, 0, 300); !bytes.Equal(b, []byte{0, 2, 1, 44}) {
		t.Error(b)
	}
	if b := Put([]byte{5, 6}); !bytes.Equal(b, []byte{5, 6}) {
		t.Error(b)
	}
	if b := Put(nil); len(b) != 0 {
		t.Error(b)
	}
	nums, want := []uint64{}, []byte{3}
	for range 20 {
		for _, c := range forms {
			nums = append(nums, c.num)
			want = append(want, c.form...)
		}
	}
	if b := Put([]byte{3}, nums...); !bytes.Equal(b, want) {
		t.Error(b)
	}
}

// P2.1 Get
func TestGet(t *testing.T) {
	for _, c := range forms {
		for _, tail := range [][]byte{nil, {0}, {1, 0, 9}, filled(5000)} {
			num, rest, e := Get(slices.Concat(c.form, tail))
			if num != c.num || !bytes.Equal(rest, tail) || e != api.OK {
				t.Errorf("Get of %v and %d more = %d, %d bytes, %d", c.form, len(tail), num, len(rest), e)
			}
		}
	}
}

// P2.1 Get, and the chapter's errors
func TestGetOfNoForm(t *testing.T) {
	if api.ErrWire != 21 {
		t.Error(api.ErrWire)
	}
	for _, b := range noForms {
		if num, rest, e := Get(b); num != 0 || len(rest) != 0 || e != api.ErrWire {
			t.Errorf("Get(%v) = %d, %v, %d", b, num, rest, e)
		}
	}
	for _, c := range forms {
		for n := range len(c.form) {
			if num, rest, e := Get(c.form[:n]); num != 0 || len(rest) != 0 || e != api.ErrWire {
				t.Errorf("Get(%v) = %d, %v, %d", c.form[:n], num, rest, e)
			}
		}
	}
	for first := 9; first < 256; first++ {
		b := append([]byte{byte(first)}, bytes.Repeat([]byte{1}, 300)...)
		if num, rest, e := Get(b); num != 0 || len(rest) != 0 || e != api.ErrWire {
			t.Errorf("Get of %d and 300 more = %d, %d bytes, %d", first, num, len(rest), e)
		}
	}
}

// P2.1: of all short bytes, those are taken, and those alone, that Put would have made.
func TestGetTakesWhatPutMakes(t *testing.T) {
	made := map[string]uint64{}
	for num := range uint64(1 << 16) {
		made[string(Put(nil, num))] = num
	}
	for bits := range 11 << 16 { // the first byte goes from 0 to 10
		b := []byte{byte(bits >> 16), byte(bits >> 8), byte(bits)}
		want, size := uint64(0), 0
		for n := 1; n <= len(b); n++ {
			if num, ok := made[string(b[:n])]; ok {
				want, size = num, n
			}
		}
		num, rest, e := Get(b)
		if size == 0 && (num != 0 || len(rest) != 0 || e != api.ErrWire) {
			t.Fatalf("Get(%v) = %d, %v, %d", b, num, rest, e)
		}
		if size > 0 && (num != want || !bytes.Equal(rest, b[size:]) || e != api.OK) {
			t.Fatalf("Get(%v) = %d, %v, %d", b, num, rest, e)
		}
	}
}

// P2.1 Gets
func TestGets(t *testing.T) {
	nums, b := []uint64{}, []byte{}
	for i := range 120 {
		c := forms[i%len(forms)]
		nums, b = append(nums, c.num), append(b, c.form...)
	}
	behind := b
	for many := range 101 {
		l, rest, e := Gets(b, many)
		if !slices.Equal(l, nums[:many]) || !bytes.Equal(rest, behind) || e != api.OK {
			t.Errorf("Gets of %d = %v, %v, %d", many, l, rest, e)
		}
		behind = behind[len(forms[many%len(forms)].form):]
	}
	if l, rest, e := Gets(nil, 0); len(l) != 0 || len(rest) != 0 || e != api.OK {
		t.Error(l, rest, e)
	}
	if l, rest, e := Gets([]byte{9, 9}, 0); len(l) != 0 || !bytes.Equal(rest, []byte{9, 9}) || e != api.OK {
		t.Error(l, rest, e)
	}
}

// P2.1 Gets: how many may be asked for.
func TestGetsOfWrongMany(t *testing.T) {
	b := make([]byte, 1000)
	if l, rest, e := Gets(b, 100); len(l) != 100 || len(rest) != 900 || e != api.OK {
		t.Error(len(l), len(rest), e)
	}
	for _, many := range []int{-1, 101, 102, 356, -100, 1<<32 + 1, math.MinInt, math.MaxInt} {
		if l, rest, e := Gets(b, many); len(l) != 0 || len(rest) != 0 || e != api.ErrWire {
			t.Errorf("Gets of %d = %v, %d bytes, %d", many, l, len(rest), e)
		}
	}
}

// P2.1 Gets: what isn't a FORM, at each place.
func TestGetsOfTooFew(t *testing.T) {
	for _, bad := range noForms {
		for place := range 5 {
			b := append(bytes.Repeat([]byte{1, 7}, place), bad...)
			if l, rest, e := Gets(b, place); len(l) != place || !bytes.Equal(rest, bad) || e != api.OK {
				t.Errorf("Gets(%v, %d) = %v, %v, %d", b, place, l, rest, e)
			}
			for _, many := range []int{place + 1, place + 2, 100} {
				if l, rest, e := Gets(b, many); len(l) != 0 || len(rest) != 0 || e != api.ErrWire {
					t.Errorf("Gets(%v, %d) = %v, %v, %d", b, many, l, rest, e)
				}
			}
		}
	}
}

// P2.2 Text, Cut
func TestTextAndCut(t *testing.T) {
	if api.MaxText != 4000 {
		t.Error(api.MaxText)
	}
	for _, c := range sizedTexts {
		text := filled(c.size)
		for _, head := range [][]byte{nil, {7}, filled(5000)} {
			b, e := Text(head, text)
			if !bytes.Equal(b, slices.Concat(head, c.form, text)) || e != api.OK {
				t.Errorf("Text of %d bytes behind %d = %d bytes, %d", c.size, len(head), len(b), e)
			}
		}
		for _, tail := range [][]byte{nil, {0}, {9, 9}, filled(5000)} {
			got, rest, e := Cut(slices.Concat(c.form, text, tail))
			if !bytes.Equal(got, text) || !bytes.Equal(rest, tail) || e != api.OK {
				t.Errorf("Cut of %d bytes and %d more = %d bytes, %d bytes, %d", c.size, len(tail), len(got), len(rest), e)
			}
		}
	}
}

// P2.2 Text: a nil text is an empty one.
func TestTextOfNil(t *testing.T) {
	if b, e := Text(nil, nil); !bytes.Equal(b, []byte{0}) || e != api.OK {
		t.Error(b, e)
	}
}

// P2.2 Text: too long.
func TestTextTooLong(t *testing.T) {
	for _, size := range []int{4001, 4002, 65536, 65537, 1 << 20} {
		if b, e := Text([]byte{1, 2}, make([]byte, size)); len(b) != 0 || e != api.ErrWire {
			t.Errorf("Text of %d bytes = %d bytes, %d", size, len(b), e)
		}
	}
}

// P2.2 Cut: no FORM, a text that is cut off, one that is too long, a length beyond what an int holds.
func TestCutOfNoText(t *testing.T) {
	wrong := slices.Clone(noForms)
	for _, c := range sizedTexts {
		whole := append(slices.Clone(c.form), filled(c.size)...)
		for n := range len(whole) {
			wrong = append(wrong, whole[:n])
		}
	}
	for _, size := range []int{4001, 4002, 65536, 70000} {
		wrong = append(wrong, append(Put(nil, uint64(size)), filled(size)...))
	}
	for _, size := range []uint64{1 << 31, 1 << 32, 1<<32 + 1, 1<<63 - 1, 1 << 63, 1<<63 + 1, 1<<64 - 1} {
		wrong = append(wrong, append(Put(nil, size), filled(5000)...))
	}
	for _, b := range wrong {
		if text, rest, e := Cut(b); len(text) != 0 || len(rest) != 0 || e != api.ErrWire {
			t.Errorf("Cut of %d bytes = %v, %v, %d", len(b), text, rest, e)
		}
	}
}

// P2.2 Cut: the length must be in the one form, though the text is all there.
func TestCutOfOtherForm(t *testing.T) {
	for _, b := range [][]byte{{1, 0}, {2, 0, 2, 'h', 'i'}, {8, 0, 0, 0, 0, 0, 0, 0, 2, 'h', 'i'}, {9, 0, 0, 0, 0, 0, 0, 0, 0, 2, 'h', 'i'}} {
		if text, rest, e := Cut(b); len(text) != 0 || len(rest) != 0 || e != api.ErrWire {
			t.Errorf("Cut(%v) = %v, %v, %d", b, text, rest, e)
		}
	}
}

// Rules: what is handed in is not changed, spare room included, and what is answered shares none of it.
func TestPutAndTextLeaveWhatIsHandedIn(t *testing.T) {
	b, whole := roomy([]byte{1, 2, 3})
	text, wholeText := roomy([]byte("text"))
	nums := []uint64{5, 300}
	before, beforeText := slices.Clone(whole), slices.Clone(wholeText)
	put := Put(b, nums...)
	none := Put(b)
	spaced, _ := Text(b, text)
	if !bytes.Equal(put, []byte{1, 2, 3, 1, 5, 2, 1, 44}) || !bytes.Equal(spaced, []byte("\x01\x02\x03\x01\x04text")) {
		t.Error(put, spaced)
	}
	for _, l := range [][]byte{put, none, spaced} {
		spoil(l)
	}
	if !bytes.Equal(whole, before) || !bytes.Equal(wholeText, beforeText) || !slices.Equal(nums, []uint64{5, 300}) {
		t.Error(whole, wholeText, nums)
	}
	empty, whole := roomy(nil)
	spoil(Put(empty))
	spoil(Put(empty, 1))
	if !bytes.Equal(whole, bytes.Repeat([]byte{0xEE}, 64)) {
		t.Error(whole)
	}
}

// Rules: the same of what is taken out; and its two lists share nothing.
func TestTakenOutIsNewMemory(t *testing.T) {
	b, whole := roomy([]byte{2, 'h', 'i', 1, 2, 'h', 'i', '!', '?'})
	before := slices.Clone(whole)
	_, rest, _ := Get(b)
	spoil(rest)
	_, rest, _ = Gets(b, 1)
	spoil(rest)
	_, rest, _ = Gets(b, 0)
	spoil(rest)
	text, rest, _ := Cut(b[3:])
	if string(text) != "hi" || string(rest) != "!?" {
		t.Error(text, rest)
	}
	spoil(text)
	if string(rest) != "!?" {
		t.Error(rest)
	}
	kept := slices.Clone(text)
	spoil(rest)
	if !bytes.Equal(text, kept) || !bytes.Equal(whole, before) {
		t.Error(text, whole)
	}
}

// Rules: nothing that is handed in is kept: it may be written over behind the call.
func TestNothingIsKept(t *testing.T) {
	b := []byte("\x01\x02hi!")
	text := []byte("hi")
	put, _ := Text(b, text)
	cut, rest, _ := Cut(b)
	_, behind, _ := Get(b)
	_, after, _ := Gets(b, 1)
	spoil(b)
	spoil(text)
	if string(put) != "\x01\x02hi!\x01\x02hi" || string(cut) != "hi" || string(rest) != "!" {
		t.Error(put, cut, rest)
	}
	if string(behind) != "hi!" || string(after) != "hi!" {
		t.Error(behind, after)
	}
}
