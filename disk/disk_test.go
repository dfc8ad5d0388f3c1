package disk

import (
	"bytes"
	"fmt"
	"math"
	"math/rand"
	"slices"
	"testing"

	"ropeway/api"
)

// check tells whether a disk has these bytes, so many of them SAFE, and whether it is OFF.
func check(t *testing.T, what string, d *Disk, held string, safe int, off bool) {
	t.Helper()
	if b := d.Bytes(); string(b) != held || d.Safe() != safe || d.Off() != off {
		t.Errorf("%s: %d bytes %.40q, %d safe, off %v; want %d bytes %.40q, %d safe, off %v",
			what, len(b), b, d.Safe(), d.Off(), len(held), held, safe, off)
	}
}

// write appends a text and tells whether that answers what it should.
func write(t *testing.T, d *Disk, text string, want api.Errno) {
	t.Helper()
	if e := d.Append([]byte(text)); e != want {
		t.Errorf("Append of %d bytes %.40q = %d, want %d", len(text), text, e, want)
	}
}

// filled answers a disk with a text on it, the first bytes of which are SAFE.
func filled(t *testing.T, room int, safe, rest string) *Disk {
	t.Helper()
	d := New(room)
	write(t, d, safe, api.OK)
	d.Sync()
	write(t, d, rest, api.OK)
	check(t, "filled", d, safe+rest, len(safe), false)
	return d
}

// dark answers a disk that is OFF, with "abcd" on it, "ab" of which is SAFE, and room for 20 bytes.
func dark(t *testing.T) *Disk {
	t.Helper()
	d := filled(t, 20, "ab", "c")
	d.Fuse(1)
	write(t, d, "def", api.ErrPower)
	check(t, "dark", d, "abcd", 2, true)
	return d
}

// text answers so many bytes, no two of them within 89 alike.
func text(n int) string {
	b := make([]byte, n)
	for i := range b {
		b[i] = letter(i)
	}
	return string(b)
}

// letter answers a text's byte at a place.
func letter(i int) byte { return byte('!' + i%89) }

// P8.1: the errors' numbers and the limit.
func TestNumbers(t *testing.T) {
	if api.ErrFull != 81 || api.ErrPower != 82 || api.MaxDisk != 60000 {
		t.Error("a number of the chapter's")
	}
}

// The chapter's example.
func TestExample(t *testing.T) {
	d := New(api.MaxDisk)
	write(t, d, "ab", 0)
	d.Sync()
	d.Fuse(1)
	write(t, d, "cd", 82)
	check(t, "behind the example", d, "abc", 2, true)
}

// P8.1 New: nothing is on it, nothing is SAFE, it isn't OFF.
func TestNewIsEmpty(t *testing.T) {
	for _, room := range []int{math.MinInt, -1, 0, 1, 500, api.MaxDisk, math.MaxInt} {
		check(t, fmt.Sprint("New of ", room), New(room), "", 0, false)
	}
}

// rooms lists rooms, and how many bytes a disk with such a room takes.
func rooms() map[int]int {
	return map[int]int{
		math.MinInt: 0, math.MinInt + 1: 0, -1 << 32: 0, -1<<32 + 5: 0, -60000: 0, -2: 0, -1: 0, 0: 0, 1: 1, 2: 2, 255: 255, 256: 256,
		4000: 4000, 59999: 59999, 60000: 60000, 60001: 60000, 65536: 60000, 1 << 31: 60000, 1 << 32: 60000, 1<<32 + 5: 60000,
		math.MaxInt - 1: 60000, math.MaxInt: 60000,
	}
}

// checkRoom tells whether an empty disk takes just so many bytes, in one text, byte by byte or in halves.
func checkRoom(t *testing.T, what string, empty func() *Disk, takes int) {
	t.Helper()
	d := empty()
	if e := d.Append([]byte(text(takes + 1))); e != api.ErrFull {
		t.Errorf("%s: one byte too long: %d", what, e)
	}
	check(t, what+", one byte too long", d, "", 0, false)
	if e := d.Append([]byte(text(takes))); e != api.OK {
		t.Errorf("%s: what just fits: %d", what, e)
	}
	check(t, what+", what just fits", d, text(takes), 0, false)
	write(t, d, "", api.OK)
	write(t, d, "x", api.ErrFull)
	check(t, what+", full", d, text(takes), 0, false)

	d = empty()
	for i := range takes {
		if e := d.Append([]byte{letter(i)}); e != api.OK {
			t.Fatalf("%s: byte %d: %d", what, i, e)
		}
	}
	write(t, d, "x", api.ErrFull)
	check(t, what+", byte by byte", d, text(takes), 0, false)

	d = empty()
	write(t, d, text(takes)[:takes/2], api.OK)
	write(t, d, text(takes)[takes/2:]+"x", api.ErrFull)
	check(t, what+", half of it", d, text(takes)[:takes/2], 0, false)
	write(t, d, text(takes)[takes/2:], api.OK)
	write(t, d, "x", api.ErrFull)
	check(t, what+", both halves", d, text(takes), 0, false)
}

// P8.1 New: room for so many bytes, below 0 none, above MaxDisk that many.
func TestNewRoom(t *testing.T) {
	for room, takes := range rooms() {
		checkRoom(t, fmt.Sprint("New of ", room), func() *Disk { return New(room) }, takes)
	}
}

// P8.1 Limit: another room, as in New, smaller or greater than the one before.
func TestLimitRoom(t *testing.T) {
	for room, takes := range rooms() {
		for _, before := range []int{-1, 0, 1, 300, api.MaxDisk, math.MaxInt} {
			checkRoom(t, fmt.Sprint("Limit of ", room, " behind ", before), func() *Disk {
				d := New(before)
				d.Limit(room)
				return d
			}, takes)
		}
	}
}

// P8.1 Limit: the last one holds, and it changes nothing else.
func TestLimitLast(t *testing.T) {
	d := filled(t, 5, "abc", "de")
	d.Limit(0)
	check(t, "Limit 0", d, "abcde", 3, false)
	write(t, d, "f", api.ErrFull)
	d.Limit(7)
	check(t, "Limit 7", d, "abcde", 3, false)
	write(t, d, "fgh", api.ErrFull)
	write(t, d, "fg", api.OK)
	d.Limit(api.MaxDisk + 1)
	write(t, d, text(api.MaxDisk-6), api.ErrFull)
	write(t, d, text(api.MaxDisk-7), api.OK)
	check(t, "Limit above MaxDisk", d, "abcdefg"+text(api.MaxDisk-7), 3, false)
}

// P8.1 Limit, P8.2 Append: a room below what is there already. All stays there; no byte more has room.
func TestLimitBelowWhatIsThere(t *testing.T) {
	for _, room := range []int{math.MinInt, -1, 0, 1, 2, 3, 4} {
		d := filled(t, 9, "abc", "de")
		d.Limit(room)
		what := fmt.Sprint("Limit ", room)
		check(t, what, d, "abcde", 3, false)
		write(t, d, "", api.OK)
		write(t, d, "f", api.ErrFull)
		write(t, d, text(api.MaxDisk), api.ErrFull)
		check(t, what+", Append", d, "abcde", 3, false)
		d.Sync()
		check(t, what+", Sync", d, "abcde", 5, false)
	}
	d := filled(t, 9, "abc", "de")
	d.Limit(5)
	write(t, d, "", api.OK)
	write(t, d, "f", api.ErrFull)
	check(t, "Limit at what is there", d, "abcde", 3, false)
}

// P8.1 Limit, P8.3 Cut: behind a Cut there is room again, if what is left is below the Limit.
func TestLimitThenCut(t *testing.T) {
	d := filled(t, 9, "abc", "de")
	d.Limit(3)
	d.Cut(4)
	write(t, d, "", api.OK)
	write(t, d, "x", api.ErrFull)
	d.Cut(3)
	write(t, d, "", api.OK)
	write(t, d, "x", api.ErrFull)
	d.Cut(1)
	write(t, d, "xyz", api.ErrFull)
	write(t, d, "xy", api.OK)
	check(t, "Cut below the Limit", d, "axy", 1, false)
}

// P8.2 Append: without room nothing is there of it, and the fuse is as it was.
func TestFullChangesNothing(t *testing.T) {
	d := filled(t, 6, "ab", "c")
	d.Fuse(2)
	for range 5 {
		write(t, d, "defg", api.ErrFull)
	}
	check(t, "ErrFull", d, "abc", 2, false)
	write(t, d, "de", api.OK)
	check(t, "what can be written", d, "abcde", 2, false)
	write(t, d, "f", api.ErrPower)
	check(t, "the fuse", d, "abcde", 2, true)
}

// P8.2 Append: ErrFull is told ahead of ErrPower, where both are; not so when it is OFF already.
func TestFullAheadOfPower(t *testing.T) {
	for fuse := range 4 {
		d := filled(t, 6, "ab", "c")
		d.Fuse(fuse)
		write(t, d, "defg", api.ErrFull)
		check(t, fmt.Sprint("without room, fuse ", fuse), d, "abc", 2, false)
	}
	d := filled(t, 6, "ab", "c")
	d.Fuse(0)
	write(t, d, "def", api.ErrPower)
	check(t, "what just fits, and no power", d, "abc", 2, true)
	write(t, d, "defg", api.ErrPower)
	write(t, d, text(api.MaxDisk+1), api.ErrPower)
	check(t, "OFF, and without room", d, "abc", 2, true)
}

// P8.1 Fuse, P8.2 Append: every fuse against every length: as many bytes as can be are there.
func TestFuseEveryLength(t *testing.T) {
	for fuse := -3; fuse <= 12; fuse++ {
		for length := range 13 {
			d := filled(t, 100, "ab", "c")
			d.Fuse(fuse)
			what := fmt.Sprintf("fuse %d, %d bytes", fuse, length)
			if fuse >= 0 && length > fuse {
				write(t, d, text(length), api.ErrPower)
				check(t, what, d, "abc"+text(length)[:fuse], 2, true)
				continue
			}
			write(t, d, text(length), api.OK)
			check(t, what, d, "abc"+text(length), 2, false)
		}
	}
}

// P8.2 Append: a fuse of just as many bytes, of one fewer, of one more, up to a whole disk.
func TestFuseEdges(t *testing.T) {
	for _, length := range []int{1, 2, 255, 256, 4000, api.MaxDisk} {
		d := New(api.MaxDisk)
		d.Fuse(length)
		write(t, d, text(length), api.OK)
		check(t, "just as many", d, text(length), 0, false)

		d = New(api.MaxDisk)
		d.Fuse(length - 1)
		write(t, d, text(length), api.ErrPower)
		check(t, "one fewer", d, text(length)[:length-1], 0, true)

		d = New(api.MaxDisk)
		d.Fuse(length + 1)
		write(t, d, text(length), api.OK)
		check(t, "one more", d, text(length), 0, false)
	}
}

// P8.2 Append: a fuse of 0 lets nothing be written, and nothing else is asked of it.
func TestFuseOfNothing(t *testing.T) {
	d := filled(t, 20, "ab", "c")
	d.Fuse(0)
	check(t, "Fuse 0", d, "abc", 2, false)
	for range 3 {
		write(t, d, "", api.OK)
	}
	check(t, "nothing, fuse 0", d, "abc", 2, false)
	d.Sync()
	check(t, "Sync, fuse 0", d, "abc", 3, false)
	write(t, d, "d", api.ErrPower)
	check(t, "a byte, fuse 0", d, "abc", 3, true)
}

// P8.2 Append: so many fewer can be written behind each text, and the power goes in the midst of one.
func TestFuseBehindSeveral(t *testing.T) {
	d := New(100)
	d.Fuse(7)
	write(t, d, "ab", api.OK)
	write(t, d, "", api.OK)
	write(t, d, "cde", api.OK)
	d.Sync()
	write(t, d, "f", api.OK)
	check(t, "ahead of it", d, "abcdef", 5, false)
	write(t, d, "ghi", api.ErrPower)
	check(t, "in the midst", d, "abcdefg", 5, true)
	for _, more := range []string{"", "h", "hi", text(1000)} {
		write(t, d, more, api.ErrPower)
	}
	check(t, "behind it", d, "abcdefg", 5, true)
}

// P8.2 Append: the power goes just behind a text, so that the next byte finds none.
func TestFuseBetweenTexts(t *testing.T) {
	d := New(100)
	d.Fuse(4)
	write(t, d, "ab", api.OK)
	write(t, d, "cd", api.OK)
	write(t, d, "", api.OK)
	check(t, "all of the fuse", d, "abcd", 0, false)
	write(t, d, "e", api.ErrPower)
	check(t, "one more", d, "abcd", 0, true)
}

// P8.1 Fuse: the last one holds; below 0 it is as if there had been none.
func TestFuseLast(t *testing.T) {
	d := New(api.MaxDisk)
	d.Fuse(3)
	write(t, d, "ab", api.OK)
	d.Fuse(3)
	write(t, d, "cde", api.OK)
	d.Fuse(0)
	d.Fuse(1)
	write(t, d, "f", api.OK)
	for _, n := range []int{-1, -2, -1 << 32, math.MinInt + 1, math.MinInt} {
		d.Fuse(0)
		d.Fuse(n)
		write(t, d, text(1000), api.OK)
	}
	check(t, "below 0", d, "abcdef"+text(1000)+text(1000)+text(1000)+text(1000)+text(1000), 0, false)
	d.Fuse(2)
	write(t, d, "xyz", api.ErrPower)
}

// P8.1 Fuse: far away numbers are more than there is room for.
func TestFuseFar(t *testing.T) {
	for _, n := range []int{api.MaxDisk, api.MaxDisk + 1, 1 << 31, 1 << 32, math.MaxInt - 1, math.MaxInt} {
		d := New(api.MaxDisk)
		d.Fuse(n)
		write(t, d, "", api.OK)
		write(t, d, text(api.MaxDisk), api.OK)
		write(t, d, "x", api.ErrFull)
		check(t, fmt.Sprint("Fuse ", n), d, text(api.MaxDisk), 0, false)
	}
}

// P8.1 Fuse: what Cut takes away was written: the fuse counts it.
func TestFuseAndCut(t *testing.T) {
	d := New(100)
	d.Fuse(4)
	write(t, d, "abc", api.OK)
	d.Cut(0)
	write(t, d, "de", api.ErrPower)
	check(t, "behind a Cut", d, "d", 0, true)
}

// P8.2 Sync: all that is there is SAFE, also when there is nothing.
func TestSync(t *testing.T) {
	d := New(20)
	d.Sync()
	check(t, "nothing", d, "", 0, false)
	write(t, d, "abc", api.OK)
	check(t, "not yet", d, "abc", 0, false)
	d.Sync()
	check(t, "all", d, "abc", 3, false)
	write(t, d, "de", api.OK)
	check(t, "more", d, "abcde", 3, false)
	d.Sync()
	d.Sync()
	check(t, "twice", d, "abcde", 5, false)
}

// P8.2 and P8.3: when it is OFF, Append is refused, and Sync and Cut do nothing.
func TestOff(t *testing.T) {
	d := dark(t)
	d.Sync()
	check(t, "Sync", d, "abcd", 2, true)
	for _, n := range []int{math.MinInt, -1, 0, 1, 2, 3, 4, 5, math.MaxInt} {
		d.Cut(n)
		check(t, fmt.Sprint("Cut ", n), d, "abcd", 2, true)
	}
	for _, more := range []string{"", "x", text(16), text(17), text(api.MaxDisk + 1)} {
		write(t, d, more, api.ErrPower)
		check(t, "Append", d, "abcd", 2, true)
	}
}

// P8.1 Fuse when it is OFF: the power doesn't come back by it, and a Crash takes it away.
func TestFuseWhenOff(t *testing.T) {
	for _, n := range []int{math.MinInt, -1, 0, 1, 2, 100, math.MaxInt} {
		d := dark(t)
		d.Fuse(n)
		what := fmt.Sprint("Fuse ", n)
		check(t, what, d, "abcd", 2, true)
		write(t, d, "x", api.ErrPower)
		write(t, d, "", api.ErrPower)
		d.Sync()
		check(t, what+", Append and Sync", d, "abcd", 2, true)
		d.Crash(0)
		write(t, d, text(18), api.OK)
		check(t, what+", Crash", d, "ab"+text(18), 2, false)
	}
}

// P8.1 Limit when it is OFF: it stays OFF, and the room is another one behind a Crash.
func TestLimitWhenOff(t *testing.T) {
	for room, more := range map[int]int{math.MinInt: -2, -1: -2, 0: -2, 1: -1, 2: 0, 3: 1, 50: 48, math.MaxInt: api.MaxDisk - 2} {
		d := dark(t)
		d.Limit(room)
		what := fmt.Sprint("Limit ", room)
		check(t, what, d, "abcd", 2, true)
		write(t, d, "", api.ErrPower)
		write(t, d, "x", api.ErrPower)
		d.Crash(0)
		check(t, what+", Crash", d, "ab", 2, false)
		write(t, d, text(max(more+1, 1)), api.ErrFull)
		fits := text(max(more, 0))
		write(t, d, fits, api.OK)
		check(t, what+", as much as fits", d, "ab"+fits, 2, false)
	}
}

// P8.3 Crash: what is SAFE is left, and keep bytes behind that, as far as there are.
func TestCrashKeep(t *testing.T) {
	for keep, left := range map[int]string{
		math.MinInt: "abc", math.MinInt + 1: "abc", math.MinInt + 4: "abc", -1 << 32: "abc", -1<<32 + 1: "abc", -4: "abc", -3: "abc",
		-2: "abc", -1: "abc", 0: "abc", 1: "abcd", 2: "abcde", 3: "abcdef", 4: "abcdefg", 5: "abcdefg", 7: "abcdefg", 8: "abcdefg",
		1 << 31: "abcdefg", 1 << 32: "abcdefg", math.MaxInt - 3: "abcdefg", math.MaxInt - 2: "abcdefg", math.MaxInt - 1: "abcdefg",
		math.MaxInt: "abcdefg",
	} {
		d := filled(t, 10, "abc", "defg")
		d.Crash(keep)
		check(t, fmt.Sprint("Crash ", keep), d, left, len(left), false)
		d.Crash(keep)
		check(t, fmt.Sprint("Crash twice ", keep), d, left, len(left), false)
		d.Crash(0)
		check(t, fmt.Sprint("Crash 0 behind ", keep), d, left, len(left), false)
	}
}

// P8.3 Crash: with nothing SAFE, with all SAFE, with nothing there.
func TestCrashEdges(t *testing.T) {
	for _, keep := range []int{math.MinInt, -1, 0, 1, 2, 3, 4, math.MaxInt} {
		want := "abc"[:max(0, min(keep, 3))]
		d := filled(t, 10, "", "abc")
		d.Crash(keep)
		check(t, fmt.Sprint("nothing SAFE, Crash ", keep), d, want, len(want), false)

		d = filled(t, 10, "abc", "")
		d.Crash(keep)
		check(t, fmt.Sprint("all SAFE, Crash ", keep), d, "abc", 3, false)

		d = New(10)
		d.Crash(keep)
		check(t, fmt.Sprint("nothing there, Crash ", keep), d, "", 0, false)
	}
}

// P8.3 Crash when it is OFF: it isn't any more, and no power will go; what was written of the last text may be there.
func TestCrashWhenOff(t *testing.T) {
	for keep, left := range map[int]string{math.MinInt: "ab", -1: "ab", 0: "ab", 1: "abc", 2: "abcd", 3: "abcd", math.MaxInt: "abcd"} {
		d := dark(t)
		d.Crash(keep)
		what := fmt.Sprint("Crash ", keep)
		check(t, what, d, left, len(left), false)
		write(t, d, text(20-len(left)+1), api.ErrFull)
		write(t, d, text(20-len(left)), api.OK)
		check(t, what+", Append", d, left+text(20-len(left)), len(left), false)
		d.Sync()
		check(t, what+", Sync", d, left+text(20-len(left)), 20, false)
	}
}

// P8.3 Crash: a fuse that hadn't gone yet is away.
func TestCrashTakesFuse(t *testing.T) {
	for fuse := range 4 {
		d := filled(t, 30, "ab", "c")
		d.Fuse(fuse)
		d.Crash(1)
		write(t, d, text(27), api.OK)
		check(t, fmt.Sprint("fuse ", fuse), d, "abc"+text(27), 3, false)
	}
}

// P8.3 Crash: the room stays what it was.
func TestCrashKeepsRoom(t *testing.T) {
	d := filled(t, 30, "abc", "de")
	d.Limit(4)
	d.Crash(0)
	write(t, d, "xy", api.ErrFull)
	write(t, d, "x", api.OK)
	check(t, "room 4", d, "abcx", 3, false)
	d.Limit(2)
	d.Crash(9)
	check(t, "room 2", d, "abcx", 4, false)
	write(t, d, "", api.OK)
	write(t, d, "y", api.ErrFull)
}

// P8.3 Crash: twice behind one another, with bytes between them and without.
func TestCrashTwice(t *testing.T) {
	d := filled(t, 30, "ab", "cdef")
	d.Crash(2)
	check(t, "once", d, "abcd", 4, false)
	d.Crash(2)
	check(t, "twice", d, "abcd", 4, false)
	write(t, d, "xyz", api.OK)
	d.Crash(1)
	check(t, "with bytes between", d, "abcdx", 5, false)
	d = dark(t)
	d.Crash(-1)
	d.Crash(math.MaxInt)
	check(t, "when OFF", d, "ab", 2, false)
}

// P8.3 Cut: the first n bytes are left, as SAFE as they were.
func TestCut(t *testing.T) {
	for n := -3; n <= 10; n++ {
		d := filled(t, 10, "abc", "defg")
		d.Cut(n)
		left := max(0, min(n, 7))
		what := fmt.Sprint("Cut ", n)
		check(t, what, d, "abcdefg"[:left], min(left, 3), false)
		d.Cut(n)
		check(t, what+" twice", d, "abcdefg"[:left], min(left, 3), false)
		write(t, d, text(10-left+1), api.ErrFull)
		write(t, d, text(10-left), api.OK)
		check(t, what+", Append", d, "abcdefg"[:left]+text(10-left), min(left, 3), false)
		d.Crash(1)
		check(t, what+", Crash", d, ("abcdefg"[:left] + text(10-left))[:min(left, 3)+1], min(left, 3)+1, false)
	}
}

// P8.3 Cut: far away numbers, and a disk with nothing on it.
func TestCutFar(t *testing.T) {
	for n, left := range map[int]string{
		math.MinInt: "", math.MinInt + 1: "", math.MinInt + 3: "", -1 << 32: "", -1<<32 + 2: "", 1 << 31: "abcd", 1 << 32: "abcd",
		1<<32 + 1: "abcd", math.MaxInt - 1: "abcd", math.MaxInt: "abcd",
	} {
		d := filled(t, 10, "ab", "cd")
		d.Cut(n)
		check(t, fmt.Sprint("Cut ", n), d, left, min(2, len(left)), false)
		d = New(10)
		d.Cut(n)
		check(t, fmt.Sprint("Cut of nothing ", n), d, "", 0, false)
	}
}

// P8.3 Cut: what was cut away doesn't come back, neither by Cut nor by Crash.
func TestCutIsAway(t *testing.T) {
	d := filled(t, 10, "abcd", "ef")
	d.Cut(2)
	d.Cut(6)
	check(t, "Cut above", d, "ab", 2, false)
	d.Crash(math.MaxInt)
	check(t, "Crash", d, "ab", 2, false)
	write(t, d, "x", api.OK)
	check(t, "Append", d, "abx", 2, false)
	d.Cut(0)
	d.Sync()
	d.Crash(math.MaxInt)
	check(t, "nothing left", d, "", 0, false)
}

// DOC.md, Rules: nil and empty are one.
func TestNilIsEmpty(t *testing.T) {
	for _, none := range nothings() {
		d := filled(t, 3, "ab", "c")
		d.Fuse(0)
		if e := d.Append(none); e != api.OK {
			t.Errorf("Append of nothing when full: %d", e)
		}
		check(t, "Append of nothing", d, "abc", 2, false)
		if e := dark(t).Append(none); e != api.ErrPower {
			t.Errorf("Append of nothing when OFF: %d", e)
		}
	}
	if len(New(5).Bytes()) != 0 {
		t.Error("Bytes of nothing")
	}
}

// nothings lists what has no bytes: nil, empty, and empty with spare room.
func nothings() [][]byte { return [][]byte{nil, {}, make([]byte, 0, 10), []byte("abc")[1:1]} }

// checkNothing tells whether Append of nothing is OK and changes nothing on a disk that isn't OFF and has more
// than its room: neither what it shows, nor that a byte has no room.
func checkNothing(t *testing.T, what string, d *Disk) {
	t.Helper()
	held, safe := string(d.Bytes()), d.Safe()
	for _, none := range nothings() {
		if e := d.Append(none); e != api.OK {
			t.Errorf("%s: Append of nothing = %d, want %d", what, e, api.OK)
		}
		check(t, what+", Append of nothing", d, held, safe, false)
		write(t, d, "x", api.ErrFull)
		write(t, d, text(api.MaxDisk+1), api.ErrFull)
		check(t, what+", Append without room", d, held, safe, false)
	}
}

// P8.2 Append of nothing where the Limit lies below what is there: nothing needs no room, whatever is SAFE of it.
func TestNothingBelowLimit(t *testing.T) {
	for _, room := range []int{math.MinInt, -1, 0, 1, 2, 3, 4} {
		for safe := range 6 {
			d := filled(t, 9, "abcde"[:safe], "abcde"[safe:])
			d.Limit(room)
			checkNothing(t, fmt.Sprintf("Limit %d, %d safe", room, safe), d)
		}
	}
	d := New(api.MaxDisk)
	write(t, d, text(api.MaxDisk), api.OK)
	d.Limit(0)
	checkNothing(t, "a whole disk", d)
	d.Limit(api.MaxDisk - 1)
	checkNothing(t, "a whole disk, one byte less room", d)
}

// P8.2 Append of nothing below a Limit leaves the fuse as it was, a fuse of 0 too.
func TestNothingBelowLimitFused(t *testing.T) {
	for _, fuse := range []int{0, 1, 3} {
		d := filled(t, 9, "abc", "de")
		d.Fuse(fuse)
		d.Limit(2)
		what := fmt.Sprint("fuse ", fuse)
		checkNothing(t, what, d)
		d.Limit(20)
		write(t, d, text(fuse), api.OK)
		write(t, d, "x", api.ErrPower)
		check(t, what+", all of it", d, "abcde"+text(fuse), 3, true)
	}
	for _, fuse := range []int{math.MinInt, -1, math.MaxInt} {
		d := filled(t, 9, "abc", "de")
		d.Fuse(fuse)
		d.Limit(2)
		checkNothing(t, fmt.Sprint("fuse ", fuse), d)
		d.Limit(20)
		write(t, d, text(15), api.OK)
	}
}

// P8.2 Append of nothing behind a Crash, or a Cut, that leaves more than the Limit.
func TestNothingBehindCrashAndCut(t *testing.T) {
	for room := range 3 {
		what := fmt.Sprint("Limit ", room)
		d := filled(t, 9, "abc", "de")
		d.Limit(room)
		d.Crash(1)
		check(t, what+", Crash", d, "abcd", 4, false)
		checkNothing(t, what+", Crash", d)
		d.Cut(3)
		check(t, what+", Crash and Cut", d, "abc", 3, false)
		checkNothing(t, what+", Crash and Cut", d)

		d = filled(t, 9, "abc", "de")
		d.Limit(room)
		d.Cut(4)
		check(t, what+", Cut", d, "abcd", 3, false)
		checkNothing(t, what+", Cut", d)
		d.Crash(0)
		check(t, what+", Cut and Crash", d, "abc", 3, false)
		checkNothing(t, what+", Cut and Crash", d)
	}
}

// P8.2 Append of nothing when OFF is ErrPower, also below a Limit; behind the Crash it is OK again.
func TestNothingBelowLimitWhenOff(t *testing.T) {
	for room := -1; room < 2; room++ {
		d := dark(t)
		d.Limit(room)
		for _, none := range nothings() {
			if e := d.Append(none); e != api.ErrPower {
				t.Errorf("Limit %d: Append of nothing when OFF = %d, want %d", room, e, api.ErrPower)
			}
			check(t, "OFF", d, "abcd", 2, true)
		}
		d.Crash(0)
		checkNothing(t, "behind the Crash", d)
	}
}

// DOC.md, Rules: what is handed in stays as it is, spare room too, and is not kept.
func TestHandedIn(t *testing.T) {
	for _, fuse := range []int{-1, 0, 2, 4} {
		whole := []byte("abcdEEEE")
		d := New(10)
		d.Fuse(fuse)
		d.Append(whole[:4])
		want := string(d.Bytes())
		d.Append([]byte("zz"))
		d.Sync()
		if string(whole) != "abcdEEEE" {
			t.Errorf("handed in: %q", whole)
		}
		for i := range whole {
			whole[i] = '#'
		}
		if got := string(d.Bytes()); got[:len(want)] != want {
			t.Errorf("fuse %d: %q behind the caller's writing, was %q", fuse, got, want)
		}
	}
}

// spoil writes over all of a list, spare room included.
func spoil(b []byte) {
	b = b[:cap(b)]
	for i := range b {
		b[i] = '#'
	}
}

// DOC.md, Rules: what Bytes answers is the caller's own, spare room too.
func TestAnswerIsOwn(t *testing.T) {
	for _, rest := range []string{"", "c", text(30), text(5000)} {
		d := filled(t, api.MaxDisk, "ab", rest)
		one, other := d.Bytes(), d.Bytes()
		spoil(one)
		check(t, "spoiled", d, "ab"+rest, 2, false)
		if string(other) != "ab"+rest {
			t.Errorf("two answers share memory: %.40q", other)
		}
		write(t, d, "xyz", api.OK)
		d.Cut(1)
		write(t, d, "XYZ", api.OK)
		if string(other) != "ab"+rest {
			t.Errorf("the disk writes into an answer: %.40q", other)
		}
		spoil(append(other, "pqr"...))
		write(t, d, "!", api.OK)
		check(t, "longer by the caller", d, "aXYZ!", 1, false)
	}
}

// DOC.md, Rules: a disk takes its own bytes as those of anybody else.
func TestOwnBytes(t *testing.T) {
	d := filled(t, 20, "ab", "cd")
	write(t, d, string(d.Bytes()), api.OK)
	b := d.Bytes()
	if e := d.Append(b); e != api.OK {
		t.Error(e)
	}
	spoil(b)
	check(t, "doubled twice", d, "abcdabcdabcdabcd", 2, false)
}

// Two disks have nothing in common, though both are written from one text.
func TestTwoDisks(t *testing.T) {
	b := []byte("abcd")
	one, other := New(8), New(8)
	one.Append(b)
	other.Append(b)
	one.Sync()
	check(t, "Sync of one", other, "abcd", 0, false)
	one.Limit(4)
	write(t, other, "e", api.OK)
	write(t, one, "e", api.ErrFull)
	one.Limit(8)
	one.Fuse(0)
	write(t, other, "f", api.OK)
	write(t, one, "x", api.ErrPower)
	check(t, "one is OFF", other, "abcdef", 0, false)
	other.Cut(2)
	check(t, "Cut of the other", one, "abcd", 4, true)
	other.Crash(1)
	check(t, "Crash of the other", one, "abcd", 4, true)
	write(t, other, "zzz", api.OK)
	one.Crash(0)
	write(t, one, "yy", api.OK)
	check(t, "one", one, "abcdyy", 4, false)
	check(t, "the other", other, "azzz", 1, false)
}

// place is a byte as the tests reckon with a disk: each is SAFE or not by itself.
type place struct {
	b    byte
	safe bool
}

// plain is a disk as the tests reckon with it, byte by byte.
type plain struct {
	places []place
	room   int
	fused  bool
	left   int
	off    bool
}

// limit is Limit's, and New's, room.
func (p *plain) limit(room int) {
	switch {
	case room < 0:
		p.room = 0
	case room > 60000:
		p.room = 60000
	default:
		p.room = room
	}
}

// write is Append.
func (p *plain) write(b string) api.Errno {
	if p.off {
		return 82
	}
	if len(b) > 0 && len(p.places)+len(b) > p.room {
		return 81
	}
	for i := range len(b) {
		if p.fused && p.left == 0 {
			p.off = true
			return 82
		}
		p.places = append(p.places, place{b: b[i]})
		p.left--
	}
	return 0
}

// sync is Sync.
func (p *plain) sync() {
	for i := range p.places {
		p.places[i].safe = p.places[i].safe || !p.off
	}
}

// crash is Crash.
func (p *plain) crash(keep int) {
	var left []place
	for _, x := range p.places {
		if !x.safe {
			if keep <= 0 {
				break
			}
			keep--
		}
		left = append(left, place{x.b, true})
	}
	*p = plain{places: left, room: p.room}
}

// cut is Cut.
func (p *plain) cut(n int) {
	for !p.off && len(p.places) > 0 && len(p.places) > n {
		p.places = p.places[:len(p.places)-1]
	}
}

// seen answers what a disk must show.
func (p *plain) seen() (string, int) {
	var held []byte
	safe := 0
	for _, x := range p.places {
		held = append(held, x.b)
		if x.safe {
			safe++
		}
	}
	return string(held), safe
}

// deed is one call of a disk's.
type deed struct {
	name string
	n    int
	text string
}

// do calls the disk and reckons; it answers what both answer.
func (c deed) do(d *Disk, p *plain) (got, want api.Errno) {
	switch c.name {
	case "append":
		return d.Append([]byte(c.text)), p.write(c.text)
	case "sync":
		d.Sync()
		p.sync()
	case "fuse":
		d.Fuse(c.n)
		p.fused, p.left = c.n >= 0, c.n
	case "limit":
		d.Limit(c.n)
		p.limit(c.n)
	case "crash":
		d.Crash(c.n)
		p.crash(c.n)
	case "cut":
		d.Cut(c.n)
		p.cut(c.n)
	}
	return 0, 0
}

// play calls a new disk, one deed after the other, and holds it against what is reckoned.
func play(t *testing.T, room int, deeds []deed) {
	t.Helper()
	d, p := New(room), &plain{}
	p.limit(room)
	for i, c := range deeds {
		got, want := c.do(d, p)
		held, safe := p.seen()
		if b := d.Bytes(); got != want || string(b) != held || d.Safe() != safe || d.Off() != p.off {
			t.Fatalf("room %d, %v: %d, %q, %d safe, off %v; want %d, %q, %d safe, off %v",
				room, deeds[:i+1], got, b, d.Safe(), d.Off(), want, held, safe, p.off)
		}
	}
}

// fewDeeds lists deeds with the edges of a small disk.
func fewDeeds() []deed {
	l := []deed{{name: "sync"}, {name: "append"}, {name: "append", text: "a"}, {name: "append", text: "bcd"}, {name: "append", text: "efghi"}}
	for _, n := range []int{-1, 0, 2} {
		l = append(l, deed{name: "fuse", n: n}, deed{name: "limit", n: n}, deed{name: "crash", n: n}, deed{name: "cut", n: n})
	}
	return append(l, deed{name: "fuse", n: 3}, deed{name: "limit", n: 9}, deed{name: "crash", n: math.MaxInt}, deed{name: "cut", n: 4})
}

// P8.1 to P8.3: every four deeds behind one another, on a disk with a text that is SAFE in part.
func TestEveryFewDeeds(t *testing.T) {
	begin := []deed{{name: "append", text: "xyz"}, {name: "sync"}, {name: "append", text: "w"}}
	var grow func(l []deed)
	grow = func(l []deed) {
		if len(l) == len(begin)+4 {
			play(t, 6, l)
			return
		}
		for _, c := range fewDeeds() {
			grow(append(slices.Clone(l), c))
		}
	}
	grow(begin)
}

// P8.1 to P8.3: many deeds, far away numbers among them.
func TestManyDeeds(t *testing.T) {
	r := rand.New(rand.NewSource(8))
	far := []int{math.MinInt, math.MinInt + 1, -1 << 32, 1 << 32, math.MaxInt - 1, math.MaxInt}
	names := []string{"append", "append", "append", "append", "append", "append", "sync", "sync", "fuse", "limit", "crash", "cut"}
	for range 3000 {
		var l []deed
		for range 60 {
			c := deed{name: names[r.Intn(len(names))], n: r.Intn(45) - 5}
			if r.Intn(10) == 0 {
				c.n = far[r.Intn(len(far))]
			}
			if c.name == "append" {
				from := r.Intn(80)
				c.text = text(90)[from : from+r.Intn(11)]
			}
			l = append(l, c)
		}
		play(t, r.Intn(60)-3, l)
	}
}

// P8.2 Append: bytes of every kind stay what they are, zeros too.
func TestEveryByte(t *testing.T) {
	var all []byte
	for i := range 256 {
		all = append(all, byte(i), 0)
	}
	d := New(len(all))
	write(t, d, string(all), api.OK)
	check(t, "every byte", d, string(all), 0, false)
	d.Crash(len(all) - 1)
	check(t, "behind a Crash", d, string(all[:len(all)-1]), len(all)-1, false)
}

// P1: a text far longer than any room.
func TestVeryLong(t *testing.T) {
	b := bytes.Repeat([]byte("ab"), 1<<22)
	d := filled(t, math.MaxInt, "ab", "c")
	d.Fuse(1)
	if e := d.Append(b); e != api.ErrFull {
		t.Error(e)
	}
	check(t, "very long", d, "abc", 2, false)
	if e := dark(t).Append(b); e != api.ErrPower {
		t.Error(e)
	}
}

// P2: the same calls on two disks answer the same, whatever a third one went through.
func TestSameTwice(t *testing.T) {
	r := rand.New(rand.NewSource(9))
	l := fewDeeds()
	for range 300 {
		one, other, third := New(12), New(12), New(12)
		p := &plain{room: 12}
		for range 40 {
			c := l[r.Intn(len(l))]
			first, _ := c.do(one, p)
			l[r.Intn(len(l))].do(third, &plain{})
			second, _ := c.do(other, &plain{})
			if first != second || string(one.Bytes()) != string(other.Bytes()) || one.Safe() != other.Safe() || one.Off() != other.Off() {
				t.Fatalf("%v: %d and %d", c, first, second)
			}
		}
	}
}
