package msg

import (
	"bytes"
	"fmt"
	"hash/crc32"
	"math"
	"math/rand"
	"slices"
	"testing"

	"ropeway/api"
)

// minusZero answers the zero below 0.
func minusZero() float64 { return math.Copysign(0, -1) }

// nanBits is how what is not a number is put, whatever its bits are.
const nanBits = 0x7FF8000000000001

// nans lists what is not a number, by unlike bits, those that are put first.
func nans() []float64 {
	var l []float64
	for _, bits := range []uint64{nanBits, 0x7FF0000000000001, 0x7FF8000000000000, 0x7FFFFFFFFFFFFFFF, 0xFFF8000000000001, math.MaxUint64} {
		l = append(l, math.Float64frombits(bits))
	}
	return l
}

// oddValues lists values, no two of them the same.
func oddValues() []float64 {
	return []float64{0, minusZero(), math.NaN(), math.Inf(1), math.Inf(-1), 1, -1, 0.1, 300,
		math.MaxFloat64, -math.MaxFloat64, math.SmallestNonzeroFloat64, -math.SmallestNonzeroFloat64}
}

// bitsOf answers a value's bits, those of what is not a number in their one form.
func bitsOf(x float64) uint64 {
	if x != x {
		return nanBits
	}
	return math.Float64bits(x)
}

// farNumbers lists numbers that are far away, those among them whose low bits look like a small one.
func farNumbers() []int {
	return []int{1 << 31, 1 << 32, 1<<32 + 1, 1<<32 + 5, 1 << 62, math.MaxInt, math.MaxInt - 1,
		-1 << 31, -1 << 32, -1<<32 + 1, math.MinInt, math.MinInt + 1, math.MinInt + 5, -256, 256, 257, -250}
}

// holdsCells tells whether messages of a kind can have Cells.
func holdsCells(kind int) bool { return kind == 1 || kind == 5 }

// holdsBook tells whether messages of a kind can have a Book.
func holdsBook(kind int) bool { return kind == 3 || kind == 6 }

// cell answers a cell in few words.
func cell(node, add, del int) api.Cell {
	return api.Cell{Node: node, Change: api.View{Add: add, Del: del}}
}

// entry answers an entry in few words.
func entry(key, number, node int, x float64) api.Entry {
	return api.Entry{Key: key, Tag: api.Tag{Num: number, Node: node}, Value: x}
}

// six answers a cell of each node.
func six() []api.Cell {
	return []api.Cell{cell(0, 8, 0), cell(1, 0, 1), cell(2, 63, 63), cell(3, 8, 0), cell(4, 0, 63), cell(5, 4, 1)}
}

// four answers an entry of each key.
func four() []api.Entry {
	return []api.Entry{entry(0, 1, 0, 0.5), entry(1, 1000000, 5, math.NaN()), entry(2, 300, 2, minusZero()), entry(3, 1, 0, math.Inf(-1))}
}

// head answers a message of a kind with all but lists.
func head(kind int) api.Msg {
	return api.Msg{Kind: kind, From: 1, To: 4, Inc: 300, Seq: 70000, View: api.View{Add: 7, Del: 1}}
}

// whole answers a message of a kind with all that it can have.
func whole(kind int) api.Msg {
	m := head(kind)
	if holdsCells(kind) {
		m.Cells = six()
	}
	if holdsBook(kind) {
		m.Book = four()
	}
	return m
}

// oneOfEach answers a message of each kind with all that it can have.
func oneOfEach() []api.Msg {
	var l []api.Msg
	for kind := range 8 {
		l = append(l, whole(kind))
	}
	return l
}

// changed answers what turn makes of a message, which stays.
func changed(m api.Msg, turn func(m *api.Msg)) api.Msg {
	m.Cells, m.Book = slices.Clone(m.Cells), slices.Clone(m.Book)
	turn(&m)
	return m
}

// someOf lists the parts of a list that are named by the bits of a number, for all numbers but the last one.
func someOf[T any](l []T) [][]T {
	var all [][]T
	for set := range 1<<len(l) - 1 {
		var some []T
		for i, x := range l {
			if set>>i&1 == 1 {
				some = append(some, x)
			}
		}
		all = append(all, some)
	}
	return all
}

// rights lists messages that are RIGHT, no two of them the same, with the edges that the chapter names.
func rights() []api.Msg {
	l := oneOfEach()
	for kind := range 8 {
		for from := range 6 {
			for to := range 6 {
				if from != 1 || to != 4 {
					l = append(l, changed(whole(kind), func(m *api.Msg) { m.From, m.To = from, to }))
				}
			}
		}
		for _, n := range []int{1, 255, 256, 65535, 65536, 999999, 1000000} {
			l = append(l, changed(whole(kind), func(m *api.Msg) { m.Inc = n }), changed(whole(kind), func(m *api.Msg) { m.Seq = n }))
		}
		for _, v := range []api.View{{}, {Add: 1}, {Del: 1}, {Add: 63}, {Del: 63}, {Add: 63, Del: 63}, {Add: 4}} {
			l = append(l, changed(whole(kind), func(m *api.Msg) { m.View = v }))
		}
		if holdsCells(kind) {
			for _, some := range someOf(six()) {
				l = append(l, changed(head(kind), func(m *api.Msg) { m.Cells = some }))
			}
			for _, v := range []api.View{{Add: 1}, {Del: 1}, {Add: 63}, {Add: 62, Del: 63}} {
				l = append(l, changed(whole(kind), func(m *api.Msg) { m.Cells[3].Change = v }))
			}
		}
		if holdsBook(kind) {
			for _, some := range someOf(four()) {
				l = append(l, changed(head(kind), func(m *api.Msg) { m.Book = some }))
			}
			for _, n := range []int{2, 255, 256, 65536, 999999, 1000000} {
				l = append(l, changed(whole(kind), func(m *api.Msg) { m.Book[3].Tag.Num = n }), changed(whole(kind), func(m *api.Msg) { m.Book[0].Tag = api.Tag{Num: n, Node: 5} }))
			}
			for _, x := range oddValues() {
				l = append(l, changed(whole(kind), func(m *api.Msg) { m.Book[0].Value = x }))
			}
		}
	}
	return l
}

// wrongCells lists what are no CELLS.
func wrongCells() [][]api.Cell {
	l := [][]api.Cell{
		{cell(0, 1, 0), cell(0, 1, 0)}, {cell(5, 1, 0), cell(5, 2, 0)}, {cell(1, 1, 0), cell(0, 1, 0)},
		{cell(0, 1, 0), cell(2, 1, 0), cell(1, 1, 0)}, {cell(0, 1, 0), cell(2, 1, 0), cell(0, 1, 0)},
		append(six(), cell(5, 1, 0)), append(six(), cell(6, 1, 0)), append([]api.Cell{cell(-1, 1, 0)}, six()...), append(six(), six()...),
		slices.Repeat([]api.Cell{cell(2, 9, 1)}, 20000), {{}},
	}
	for at := range 6 {
		for _, far := range append(farNumbers(), -1, 64) {
			for _, v := range []api.View{{}, {Add: far}, {Del: far}, {Add: far, Del: 1}, {Add: 1, Del: far}} {
				b := six()
				b[at].Change = v
				l = append(l, b, b[at:at+1])
			}
		}
	}
	for _, node := range append(farNumbers(), -1, 6) {
		l = append(l, []api.Cell{cell(node, 1, 0)}, []api.Cell{cell(2, 1, 0), cell(node, 1, 0)}, []api.Cell{cell(node, 1, 0), cell(2, 1, 0)})
	}
	return l
}

// wrongBooks lists what are no BOOKS.
func wrongBooks() [][]api.Entry {
	e := entry(1, 2, 3, 4)
	l := [][]api.Entry{
		{e, e}, {four()[1], four()[0]}, {four()[0], four()[2], four()[1]}, {four()[0], four()[2], four()[0]},
		append(four(), entry(3, 1, 0, 1)), append(four(), entry(4, 1, 0, 1)), append([]api.Entry{entry(-1, 1, 0, 1)}, four()...), append(four(), four()...),
		slices.Repeat([]api.Entry{e}, 20000), {{}}, {entry(2, 0, 1, 5)}, {entry(2, 1000001, 1, 5)}, {entry(2, -1, 1, 5)}, {entry(2, 0, 0, math.NaN())},
	}
	for at := range 4 {
		for _, far := range append(farNumbers(), -1, 6) {
			b := four()
			b[at].Tag.Node = far
			l = append(l, b, b[at:at+1])
		}
		for _, far := range []int{0, -1, 1000001, 1 << 32, 1<<32 + 1, math.MaxInt, math.MinInt, math.MinInt + 1} {
			b := four()
			b[at].Tag.Num = far
			l = append(l, b, b[at:at+1])
		}
	}
	for _, key := range append(farNumbers(), -1, 4) {
		l = append(l, []api.Entry{entry(key, 1, 0, 1)}, []api.Entry{four()[2], entry(key, 1, 0, 1)}, []api.Entry{entry(key, 1, 0, 1), four()[2]})
	}
	return l
}

// wrongs lists messages that aren't RIGHT, for unlike reasons.
func wrongs() []api.Msg {
	l := []api.Msg{{}, {Inc: 1}, {Seq: 1}, {Kind: 8, Inc: 1, Seq: 1}, {Kind: -1, Inc: 1, Seq: 1}}
	for kind := range 8 {
		for _, turn := range []func(m *api.Msg){
			func(m *api.Msg) { m.From = 6 }, func(m *api.Msg) { m.From = -1 }, func(m *api.Msg) { m.To = 6 }, func(m *api.Msg) { m.To = -1 },
			func(m *api.Msg) { m.Inc = 0 }, func(m *api.Msg) { m.Inc = 1000001 }, func(m *api.Msg) { m.Seq = 0 }, func(m *api.Msg) { m.Seq = 1000001 },
			func(m *api.Msg) { m.View.Add = 64 }, func(m *api.Msg) { m.View.Add = -1 }, func(m *api.Msg) { m.View.Del = 64 }, func(m *api.Msg) { m.View.Del = -1 },
		} {
			l = append(l, changed(whole(kind), turn))
		}
		if !holdsCells(kind) {
			l = append(l, changed(whole(kind), func(m *api.Msg) { m.Cells = six() }), changed(whole(kind), func(m *api.Msg) { m.Cells = six()[2:3] }))
		}
		if !holdsBook(kind) {
			l = append(l, changed(whole(kind), func(m *api.Msg) { m.Book = four() }), changed(whole(kind), func(m *api.Msg) { m.Book = four()[3:] }))
		}
		l = append(l, changed(whole(kind), func(m *api.Msg) { m.Cells = []api.Cell{{}} }), changed(whole(kind), func(m *api.Msg) { m.Book = []api.Entry{{}} }))
	}
	return l
}

// isZero tells whether a message is what stands beside an error: a list of it may be nil or empty.
func isZero(m api.Msg) bool {
	lists := len(m.Cells) + len(m.Book)
	return lists == 0 && m.Kind == 0 && m.From == 0 && m.To == 0 && m.Inc == 0 && m.Seq == 0 && m.View == (api.View{})
}

// alike tells whether all parts of two messages are the same, reckoned without the package.
func alike(a, b api.Msg) bool {
	if len(a.Cells) != len(b.Cells) || len(a.Book) != len(b.Book) {
		return false
	}
	for i, c := range a.Cells {
		if c != b.Cells[i] {
			return false
		}
	}
	for i, e := range a.Book {
		if e.Key != b.Book[i].Key || e.Tag != b.Book[i].Tag || bitsOf(e.Value) != bitsOf(b.Book[i].Value) {
			return false
		}
	}
	return a.Kind == b.Kind && a.From == b.From && a.To == b.To && a.Inc == b.Inc && a.Seq == b.Seq && a.View == b.View
}

// check tells whether Right, and Frame with it, answer what they should.
func check(t *testing.T, m api.Msg, want bool) {
	t.Helper()
	if Right(m) != want {
		t.Errorf("Right(%.200v) = %v", fmt.Sprint(m), !want)
	}
	f, e := Frame(m)
	if want && (e != api.OK || len(f) == 0) || !want && (e != 111 || len(f) != 0) {
		t.Errorf("Frame(%.200v) = %v, %d", fmt.Sprint(m), f, e)
	}
}

// P11.1: the numbers of the error, of the kinds and of the limits.
func TestNumbers(t *testing.T) {
	if api.ErrMsg != 111 || api.MaxNum != 1000000 || api.MaxSeq != 1000000 || api.MaxNodes != 6 || api.MaxKeys != 4 {
		t.Error("the error's number, or a limit")
	}
	l := []int{api.AskCells, api.PutCells, api.AskBook, api.PutBook, api.PutMark, api.TellCells, api.TellBook, api.Done}
	if !slices.Equal(l, []int{0, 1, 2, 3, 4, 5, 6, 7}) {
		t.Error(l)
	}
}

// P11.1 Right: messages that are, of each kind, and some that aren't.
func TestRightOfEachKind(t *testing.T) {
	for _, m := range rights() {
		check(t, m, true)
	}
	for _, m := range wrongs() {
		check(t, m, false)
	}
}

// P11.1 Right: each Kind, and those that there aren't, without lists and with those of each kind.
func TestRightKind(t *testing.T) {
	for _, kind := range append(farNumbers(), -8, -7, -6, -5, -4, -3, -2, -1, 0, 1, 2, 3, 4, 5, 6, 7, 8, 9, 10, 13, 16, 255) {
		there := kind >= 0 && kind <= 7
		m := head(kind)
		check(t, m, there)
		for _, some := range someOf(six())[1:] {
			m.Cells, m.Book = some, nil
			check(t, m, there && holdsCells(kind))
			m.Book = []api.Entry{}
			check(t, m, there && holdsCells(kind))
			m.Book = four()[:1]
			check(t, m, false)
		}
		for _, some := range someOf(four())[1:] {
			m.Cells, m.Book = nil, some
			check(t, m, there && holdsBook(kind))
			m.Cells = []api.Cell{}
			check(t, m, there && holdsBook(kind))
			m.Cells = six()[5:]
			check(t, m, false)
		}
		for _, none := range [][]api.Cell{nil, {}, six()[:0]} {
			for _, nobody := range [][]api.Entry{nil, {}, four()[:0]} {
				m.Cells, m.Book = none, nobody
				check(t, m, there)
			}
		}
	}
}

// P11.1 Right: From and To, each with each: the same node twice, too.
func TestRightNodes(t *testing.T) {
	numbers := append(farNumbers(), -2, -1, 0, 1, 2, 3, 4, 5, 6, 7, 63, 64)
	for _, m := range oneOfEach() {
		for _, from := range numbers {
			for _, to := range numbers {
				m.From, m.To = from, to
				check(t, m, from >= 0 && from <= 5 && to >= 0 && to <= 5)
			}
		}
	}
}

// P11.1 Right: every Inc and every Seq that there is, and some beside them.
func TestRightIncAndSeq(t *testing.T) {
	for n := -1000; n <= 1001000; n++ {
		want := n >= 1 && n <= 1000000
		m, o := head(api.PutMark), head(api.PutMark)
		m.Inc, o.Seq = n, n
		if Right(m) != want || Right(o) != want {
			t.Fatalf("Inc or Seq %d", n)
		}
	}
	edges := append(farNumbers(), -1000000, -2, -1, 0, 1, 2, 255, 65536, 999999, 1000000, 1000001, 1<<32+1000000)
	for _, m := range oneOfEach() {
		for _, inc := range edges {
			for _, seq := range edges {
				m.Inc, m.Seq = inc, seq
				check(t, m, inc >= 1 && inc <= 1000000 && seq >= 1 && seq <= 1000000)
			}
		}
	}
}

// P11.1 Right: every View, and some that aren't RIGHT.
func TestRightView(t *testing.T) {
	for _, m := range oneOfEach() {
		for add := -2; add <= 66; add++ {
			for del := -2; del <= 66; del++ {
				m.View = api.View{Add: add, Del: del}
				check(t, m, add >= 0 && add <= 63 && del >= 0 && del <= 63)
			}
		}
		for _, far := range farNumbers() {
			for _, v := range []api.View{{Add: far}, {Del: far}, {Add: far, Del: 5}, {Add: 5, Del: far}, {Add: far, Del: far}, {Add: -far, Del: far}} {
				m.View = v
				check(t, m, false)
			}
		}
	}
}

// P11.1 Right: Cells that are no CELLS, in a message of each kind.
func TestRightWrongCells(t *testing.T) {
	for _, l := range wrongCells() {
		for kind := range 8 {
			m := head(kind)
			m.Cells = l
			check(t, m, false)
		}
	}
}

// P11.1 Right: every order of up to four Nodes, right ones and wrong ones.
func TestRightEveryOrderOfNodes(t *testing.T) {
	var grow func(l []api.Cell, rises bool)
	grow = func(l []api.Cell, rises bool) {
		for _, kind := range []int{api.PutCells, api.TellCells} {
			m := head(kind)
			m.Cells = l
			check(t, m, rises)
		}
		if len(l) == 4 {
			return
		}
		for node := -1; node <= 6; node++ {
			behind := len(l) == 0 || l[len(l)-1].Node < node
			grow(append(slices.Clone(l), cell(node, 2, 1)), rises && behind && node >= 0 && node <= 5)
		}
	}
	grow(nil, true)
}

// P11.1 Right: every Change near those that are RIGHT, in the first cell, in a middle one and in the last.
func TestRightEveryChange(t *testing.T) {
	for add := -2; add <= 66; add++ {
		for del := -2; del <= 66; del++ {
			want := add >= 0 && add <= 63 && del >= 0 && del <= 63 && add+del > 0
			for _, kind := range []int{api.PutCells, api.TellCells} {
				for at := range 3 {
					m := head(kind)
					m.Cells = six()[1:4]
					m.Cells[at].Change = api.View{Add: add, Del: del}
					check(t, m, want)
				}
			}
		}
	}
}

// P11.1 Right: a Book that is none, in a message of each kind.
func TestRightWrongBook(t *testing.T) {
	for _, b := range wrongBooks() {
		for kind := range 8 {
			m := head(kind)
			m.Book = b
			check(t, m, false)
		}
	}
}

// P11.1 Right: every order of up to four Keys, right ones and wrong ones.
func TestRightEveryOrderOfKeys(t *testing.T) {
	var grow func(b []api.Entry, rises bool)
	grow = func(b []api.Entry, rises bool) {
		for _, kind := range []int{api.PutBook, api.TellBook} {
			m := head(kind)
			m.Book = b
			check(t, m, rises)
		}
		if len(b) == 4 {
			return
		}
		for key := -1; key <= 4; key++ {
			behind := len(b) == 0 || b[len(b)-1].Key < key
			grow(append(slices.Clone(b), entry(key, 5, 2, 1)), rises && behind && key >= 0 && key <= 3)
		}
	}
	grow(nil, true)
}

// P11.1 Right: tags of a Book, right ones and wrong ones, and every kind of Value.
func TestRightTagsAndValues(t *testing.T) {
	numbers := append(farNumbers(), -1, 0, 1, 2, 3, 4, 5, 6, 7, 999999, 1000000, 1000001)
	for _, kind := range []int{api.PutBook, api.TellBook} {
		for at := range 4 {
			for _, n := range numbers {
				for _, node := range numbers {
					m := whole(kind)
					m.Book[at].Tag = api.Tag{Num: n, Node: node}
					check(t, m, n >= 1 && n <= 1000000 && node >= 0 && node <= 5)
				}
			}
			for _, x := range slices.Concat(oddValues(), nans()) {
				m := whole(kind)
				m.Book[at].Value = x
				check(t, m, true)
			}
		}
	}
}

// same tells whether Same answers what it should, either of the two first.
func same(t *testing.T, a, b api.Msg, want bool) {
	t.Helper()
	if Same(a, b) != want || Same(b, a) != want {
		t.Errorf("Same(%.200v, %.200v) = %v, %v", fmt.Sprint(a), fmt.Sprint(b), Same(a, b), Same(b, a))
	}
}

// P11.1 Same: messages that are RIGHT, each with each.
func TestSameInPairs(t *testing.T) {
	l := rights()
	for i, a := range l {
		for k, b := range l {
			if Same(a, b) != (i == k) {
				t.Fatalf("Same(%v, %v) = %v", a, b, i != k)
			}
		}
	}
}

// P11.1 Same: messages that aren't RIGHT are the same as what has all their parts, too.
func TestSameOfWrong(t *testing.T) {
	l := wrongs()
	for _, cs := range wrongCells() {
		l = append(l, api.Msg{Kind: 1, Cells: cs})
	}
	for _, b := range wrongBooks() {
		l = append(l, api.Msg{Kind: 3, Book: b}, api.Msg{Kind: 1 << 40, From: math.MinInt, Cells: six(), Book: b})
	}
	for i, a := range l {
		other := changed(a, func(*api.Msg) {})
		same(t, a, other, true)
		for k, b := range l {
			if Same(a, b) != alike(a, b) {
				t.Fatalf("Same of %d and %d = %v", i, k, !alike(a, b))
			}
		}
	}
}

// turns lists what makes a message with Cells and a Book unlike what it was, in one part alone.
func turns(cells, entries int) []func(m *api.Msg) {
	l := []func(m *api.Msg){
		func(m *api.Msg) { m.Cells = append(m.Cells, cell(5, 1, 0)) },
		func(m *api.Msg) { m.Cells = append(m.Cells, api.Cell{}) },
		func(m *api.Msg) { m.Book = append(m.Book, entry(3, 1, 0, 0)) },
		func(m *api.Msg) { m.Book = append(m.Book, api.Entry{}) },
	}
	for _, by := range []int{1, -1, 1 << 32, math.MinInt} {
		l = append(l,
			func(m *api.Msg) { m.Kind += by },
			func(m *api.Msg) { m.From += by },
			func(m *api.Msg) { m.To += by },
			func(m *api.Msg) { m.Inc += by },
			func(m *api.Msg) { m.Seq += by },
			func(m *api.Msg) { m.View.Add += by },
			func(m *api.Msg) { m.View.Del += by })
		for at := range cells {
			l = append(l,
				func(m *api.Msg) { m.Cells[at].Node += by },
				func(m *api.Msg) { m.Cells[at].Change.Add += by },
				func(m *api.Msg) { m.Cells[at].Change.Del += by })
		}
		for at := range entries {
			l = append(l,
				func(m *api.Msg) { m.Book[at].Key += by },
				func(m *api.Msg) { m.Book[at].Tag.Num += by },
				func(m *api.Msg) { m.Book[at].Tag.Node += by },
				func(m *api.Msg) { m.Book[at].Value = 77 * float64(by) })
		}
	}
	for at := range cells {
		l = append(l, func(m *api.Msg) { m.Cells = slices.Delete(m.Cells, at, at+1) })
	}
	for at := range entries {
		l = append(l, func(m *api.Msg) { m.Book = slices.Delete(m.Book, at, at+1) })
	}
	return l
}

// P11.1 Same: one part that is unlike is enough, in messages that are RIGHT and in others.
func TestSameUnlike(t *testing.T) {
	l := append(oneOfEach(), wrongs()...)
	both := head(api.PutCells)
	both.Cells, both.Book = six(), four()
	l = append(l, both, head(api.Done))
	for _, m := range l {
		for _, turn := range turns(len(m.Cells), len(m.Book)) {
			same(t, m, changed(m, turn), false)
		}
		same(t, m, changed(m, func(*api.Msg) {}), true)
	}
	// Parts of which two are unlike in one and the same way.
	m := head(api.AskBook)
	for _, turn := range []func(m *api.Msg){
		func(m *api.Msg) { m.From, m.To = m.To, m.From },
		func(m *api.Msg) { m.Inc, m.Seq = m.Seq, m.Inc },
		func(m *api.Msg) { m.View.Add, m.View.Del = m.View.Del, m.View.Add },
	} {
		same(t, m, changed(m, turn), false)
	}
}

// P11.1 Same: the same cells, or entries, in another order, and one of them twice.
func TestSameOrder(t *testing.T) {
	m := head(api.PutCells)
	m.Cells, m.Book = six(), four()
	for at := 1; at < 6; at++ {
		same(t, m, changed(m, func(m *api.Msg) { m.Cells[0], m.Cells[at] = m.Cells[at], m.Cells[0] }), false)
		same(t, m, changed(m, func(m *api.Msg) { m.Cells[at] = m.Cells[at-1] }), false)
	}
	for at := 1; at < 4; at++ {
		same(t, m, changed(m, func(m *api.Msg) { m.Book[0], m.Book[at] = m.Book[at], m.Book[0] }), false)
		same(t, m, changed(m, func(m *api.Msg) { m.Book[at] = m.Book[at-1] }), false)
	}
}

// P11.1 Same: Values as layer 1 has them: all that are not a number are one, both zeros are two.
func TestSameValues(t *testing.T) {
	for _, kind := range []int{api.PutBook, api.TellBook, api.Done, -5} {
		for at := range 4 {
			with := func(x float64) api.Msg {
				m := head(kind)
				m.Book = four()
				m.Book[at].Value = x
				return m
			}
			for i, x := range oddValues() {
				for k, y := range oddValues() {
					same(t, with(x), with(y), i == k)
				}
			}
			for _, x := range nans() {
				for _, y := range nans() {
					same(t, with(x), with(y), true)
				}
				same(t, with(x), with(0), false)
				same(t, with(x), with(math.Inf(1)), false)
			}
		}
	}
}

// P11.1 Same: a list that is nil and one that is empty are one, and neither is one with something.
func TestSameNoLists(t *testing.T) {
	for _, m := range append(wrongs()[:5], head(0), head(1), head(3), head(7)) {
		m.Cells, m.Book = nil, nil
		for _, none := range [][]api.Cell{nil, {}, six()[:0], make([]api.Cell, 0, 9)} {
			for _, nobody := range [][]api.Entry{nil, {}, four()[:0], make([]api.Entry, 0, 9)} {
				other := m
				other.Cells, other.Book = none, nobody
				same(t, m, other, true)
				same(t, other, other, true)
				full := other
				full.Cells = []api.Cell{{}}
				same(t, full, other, false)
				full = other
				full.Book = []api.Entry{{}}
				same(t, full, other, false)
			}
		}
	}
}

// roomy answers a copy of a list with spare room, which is filled, and all of that memory.
func roomy[T any](l []T, fill T) (part, all []T) {
	all = slices.Concat(l, slices.Repeat([]T{fill}, 9))
	return all[:len(l)], all
}

// spoil writes over all of a list, spare room included.
func spoil[T any](l []T, fill T) {
	l = l[:cap(l)]
	for i := range l {
		l[i] = fill
	}
}

// spoilLists writes over the lists of a message, spare room included.
func spoilLists(m api.Msg) {
	spoil(m.Cells, cell(77, 77, 77))
	spoil(m.Book, entry(77, 77, 77, 77))
}

// manyMessages lists messages of many kinds, RIGHT and not.
func manyMessages() []api.Msg {
	l := append(rights(), wrongs()...)
	for _, cs := range wrongCells() {
		l = append(l, api.Msg{Kind: 1, Cells: cs})
	}
	for _, b := range wrongBooks() {
		l = append(l, api.Msg{Kind: 3, Book: b}, api.Msg{Kind: 1 << 40, From: math.MinInt, Cells: six(), Book: b})
	}
	for _, x := range nans() {
		l = append(l, api.Msg{Kind: 6, Book: []api.Entry{entry(0, 1, 0, x)}}, api.Msg{Kind: 4, Inc: -1, Book: []api.Entry{entry(7, -1, 9, x)}})
	}
	return append(l, api.Msg{Cells: []api.Cell{}, Book: []api.Entry{}}, api.Msg{Cells: six()[:0], Book: four()[:0]})
}

// P11.1 Copy: the same, and what is copied is as it was.
func TestCopy(t *testing.T) {
	for _, m := range manyMessages() {
		was := changed(m, func(*api.Msg) {})
		got := Copy(m)
		if !alike(got, was) || !Same(got, m) || !alike(m, was) {
			t.Errorf("Copy of %.200v = %.200v", fmt.Sprint(was), fmt.Sprint(got))
		}
		if again := Copy(got); !alike(again, was) {
			t.Errorf("Copy of a Copy of %.200v = %.200v", fmt.Sprint(was), fmt.Sprint(again))
		}
	}
}

// P11.1 Copy: its lists are memory of their own, spare room too.
func TestCopyMemory(t *testing.T) {
	for _, m := range manyMessages() {
		was := changed(m, func(*api.Msg) {})
		var cells []api.Cell
		var entries []api.Entry
		m.Cells, cells = roomy(m.Cells, cell(9, 9, 9))
		m.Book, entries = roomy(m.Book, entry(9, 9, 9, 9))
		wasAll := api.Msg{Cells: slices.Clone(cells), Book: slices.Clone(entries)}
		one, other := Copy(m), Copy(m)
		_ = append(other.Cells, cell(8, 8, 8))
		_ = append(other.Book, entry(8, 8, 8, 8))
		spoilLists(other)
		if !alike(m, was) || !alike(api.Msg{Cells: cells, Book: entries}, wasAll) || !alike(one, was) {
			t.Fatalf("a copy of %.200v was written over, and it shares memory", fmt.Sprint(was))
		}
		spoilLists(m)
		if !alike(one, was) {
			t.Fatalf("%.200v was written over, and its copy shares memory", fmt.Sprint(was))
		}
	}
}

// form answers a number's FORM, reckoned byte by byte.
func form(n uint64) []byte {
	var b []byte
	for ; n > 0; n /= 256 {
		b = slices.Insert(b, 0, byte(n%256))
	}
	return slices.Insert(b, 0, byte(len(b)))
}

// sealed answers the Seal of some bytes, with a sum of the library's.
func sealed(b []byte) []byte {
	sum := crc32.ChecksumIEEE(b)
	return append(slices.Clone(b), byte(sum), byte(sum>>8), byte(sum>>16), byte(sum>>24))
}

// formed answers the FORMS of numbers.
func formed(nums ...uint64) []byte {
	var b []byte
	for _, n := range nums {
		b = append(b, form(n)...)
	}
	return b
}

// numbered answers the Seal of the FORMS of numbers.
func numbered(nums ...uint64) []byte { return sealed(formed(nums...)) }

// numbersOf answers the numbers that should stand in the Frame of a message.
func numbersOf(m api.Msg) []uint64 {
	name := func(v api.View) uint64 { return uint64(64*v.Add + v.Del) }
	l := []uint64{uint64(m.Kind), uint64(m.From), uint64(m.To), uint64(m.Inc), uint64(m.Seq), name(m.View), uint64(len(m.Cells))}
	for _, c := range m.Cells {
		l = append(l, uint64(c.Node), name(c.Change))
	}
	l = append(l, uint64(len(m.Book)))
	for _, e := range m.Book {
		l = append(l, uint64(e.Key), uint64(e.Tag.Num), uint64(e.Tag.Node), bitsOf(e.Value))
	}
	return l
}

// reckoned answers what the Frame of a message should be.
func reckoned(m api.Msg) []byte { return numbered(numbersOf(m)...) }

// P11.2 Frame: the exact form, byte by byte, of each kind.
func TestFrameKnown(t *testing.T) {
	least := func(kind int) api.Msg { return api.Msg{Kind: kind, Inc: 1, Seq: 1} }
	most := func(kind int) api.Msg {
		return api.Msg{Kind: kind, From: 5, To: 5, Inc: 1000000, Seq: 1000000, View: api.View{Add: 63, Del: 63}}
	}
	with := func(m api.Msg, cells []api.Cell, b []api.Entry) api.Msg {
		m.Cells, m.Book = cells, b
		return m
	}
	big := []byte{1, 5, 1, 5, 3, 15, 66, 64, 3, 15, 66, 64, 2, 15, 255}
	for i, c := range []struct {
		m     api.Msg
		forms []byte
	}{
		{least(api.AskCells), []byte{0, 0, 0, 1, 1, 1, 1, 0, 0, 0}},
		{least(api.PutCells), []byte{1, 1, 0, 0, 1, 1, 1, 1, 0, 0, 0}},
		{least(api.AskBook), []byte{1, 2, 0, 0, 1, 1, 1, 1, 0, 0, 0}},
		{least(api.PutBook), []byte{1, 3, 0, 0, 1, 1, 1, 1, 0, 0, 0}},
		{least(api.PutMark), []byte{1, 4, 0, 0, 1, 1, 1, 1, 0, 0, 0}},
		{least(api.TellCells), []byte{1, 5, 0, 0, 1, 1, 1, 1, 0, 0, 0}},
		{least(api.TellBook), []byte{1, 6, 0, 0, 1, 1, 1, 1, 0, 0, 0}},
		{least(api.Done), []byte{1, 7, 0, 0, 1, 1, 1, 1, 0, 0, 0}},
		{head(api.AskCells), []byte{0, 1, 1, 1, 4, 2, 1, 44, 3, 1, 17, 112, 2, 1, 193, 0, 0}},
		{most(api.Done), slices.Concat([]byte{1, 7}, big, []byte{0, 0})},
		{with(least(api.PutCells), six(), []api.Entry{}),
			[]byte{1, 1, 0, 0, 1, 1, 1, 1, 0, 1, 6, 0, 2, 2, 0, 1, 1, 1, 1, 1, 2, 2, 15, 255, 1, 3, 2, 2, 0, 1, 4, 1, 63, 1, 5, 2, 1, 1, 0}},
		{with(most(api.TellCells), []api.Cell{cell(5, 0, 1)}, nil), slices.Concat([]byte{1, 5}, big, []byte{1, 1, 1, 5, 1, 1, 0})},
		{with(least(api.TellBook), nil, four()),
			slices.Concat([]byte{1, 6, 0, 0, 1, 1, 1, 1, 0, 0, 1, 4},
				[]byte{0, 1, 1, 0, 8, 63, 224, 0, 0, 0, 0, 0, 0}, []byte{1, 1, 3, 15, 66, 64, 1, 5, 8, 127, 248, 0, 0, 0, 0, 0, 1},
				[]byte{1, 2, 2, 1, 44, 1, 2, 8, 128, 0, 0, 0, 0, 0, 0, 0}, []byte{1, 3, 1, 1, 0, 8, 255, 240, 0, 0, 0, 0, 0, 0})},
		{with(most(api.PutBook), []api.Cell{}, []api.Entry{entry(0, 1, 0, 0)}), slices.Concat([]byte{1, 3}, big, []byte{0, 1, 1, 0, 1, 1, 0, 0})},
	} {
		f, e := Frame(c.m)
		if e != api.OK || !bytes.Equal(f, sealed(c.forms)) || !bytes.Equal(f, reckoned(c.m)) {
			t.Errorf("%d: Frame(%v) = %v, %d; want %v", i, c.m, f, e, sealed(c.forms))
		}
	}
	if f, _ := Frame(least(api.AskCells)); !bytes.Equal(f[10:], []byte{0xB2, 0xFE, 0x7D, 0x0B}) {
		t.Errorf("the sum is %x", f[10:])
	}
}

// P11.2 Frame: all of rights, and the Values in their one form.
func TestFrameReckoned(t *testing.T) {
	l := rights()
	for _, x := range nans() {
		m := whole(api.TellBook)
		m.Book[2].Value = x
		l = append(l, m)
	}
	for _, m := range l {
		if f, e := Frame(m); e != api.OK || !bytes.Equal(f, reckoned(m)) {
			t.Errorf("Frame(%v) = %v, %d", m, f, e)
		}
	}
}

// P11.2 Read: every Frame, and what is not a number in its one form.
func TestReadFrames(t *testing.T) {
	for _, m := range rights() {
		for _, f := range [][]byte{frame(t, m), reckoned(m)} {
			if got, e := Read(f); e != api.OK || !alike(got, m) || !Same(got, m) {
				t.Errorf("Read of the Frame of %v = %v, %d", m, got, e)
			}
		}
	}
	for _, x := range nans() {
		m := whole(api.PutBook)
		m.Book[0].Value = x
		got, e := Read(frame(t, m))
		if e != api.OK || !alike(got, m) {
			t.Errorf("Read of the Frame of %v = %v, %d", m, got, e)
		}
	}
}

// frame answers the Frame of a message that is RIGHT.
func frame(t *testing.T, m api.Msg) []byte {
	t.Helper()
	f, e := Frame(m)
	if e != api.OK {
		t.Fatalf("Frame(%v) = %d", m, e)
	}
	return f
}

// none tells whether Read answers that these bytes are no message's.
func none(t *testing.T, what string, f []byte) {
	t.Helper()
	if m, e := Read(f); e != 111 || !isZero(m) {
		t.Errorf("%s: Read(%v) = %v, %d", what, f[:min(len(f), 400)], m, e)
	}
}

// P11.2 Read: nothing, and few bytes.
func TestReadFewBytes(t *testing.T) {
	none(t, "nil", nil)
	for size := range 400 {
		none(t, "zeros", make([]byte, size))
		none(t, "sealed zeros", sealed(make([]byte, size)))
		none(t, "ones", bytes.Repeat([]byte{255}, size))
		none(t, "sealed ones", sealed(bytes.Repeat([]byte{255}, size)))
		none(t, "sealed 1 1", sealed(bytes.Repeat([]byte{1}, size)))
	}
	for first := range 256 {
		none(t, "a byte", []byte{byte(first)})
		none(t, "a byte, sealed", sealed([]byte{byte(first)}))
		for second := range 256 {
			none(t, "two bytes", []byte{byte(first), byte(second)})
			none(t, "two bytes, sealed", sealed([]byte{byte(first), byte(second)}))
		}
	}
}

// P11.2 Read: a Frame with bytes less or more at either end.
func TestReadCut(t *testing.T) {
	for _, m := range append(oneOfEach(), api.Msg{Inc: 1, Seq: 1}) {
		f := reckoned(m)
		forms := f[:len(f)-4]
		for at := range len(f) {
			none(t, "cut at the end", f[:at])
			none(t, "cut at the beginning", f[at+1:])
			none(t, "cut in the midst", slices.Delete(slices.Clone(f), at, at+1))
		}
		for at := range len(forms) {
			none(t, "cut at the end, sealed", sealed(forms[:at]))
			none(t, "cut at the beginning, sealed", sealed(forms[at+1:]))
		}
		for x := range 256 {
			none(t, "longer at the end", slices.Concat(f, []byte{byte(x)}))
			none(t, "longer at the beginning", slices.Concat([]byte{byte(x)}, f))
			none(t, "longer at the end, sealed", sealed(slices.Concat(forms, []byte{byte(x)})))
			none(t, "longer at the beginning, sealed", sealed(slices.Concat([]byte{byte(x)}, forms)))
		}
		none(t, "twice", slices.Concat(f, f))
		none(t, "twice, sealed", sealed(slices.Concat(forms, forms)))
		none(t, "sealed twice", sealed(f))
		none(t, "without its sum", forms)
		none(t, "another sum's order", slices.Concat(forms, []byte{f[len(f)-1], f[len(f)-2], f[len(f)-3], f[len(f)-4]}))
	}
}

// The chapter's example: a Frame of which one bit is turned isn't read; nor one of which two are.
func TestReadTurned(t *testing.T) {
	for _, m := range rights() {
		f := reckoned(m)
		for bit := range 8 * len(f) {
			f[bit/8] ^= 1 << (bit % 8)
			if got, e := Read(f); e != api.ErrMsg || !isZero(got) {
				t.Fatalf("Frame of %v, bit %d turned: %v, %d", m, bit, got, e)
			}
			f[bit/8] ^= 1 << (bit % 8)
		}
	}
	f := reckoned(head(api.PutMark))
	for one := range 8 * len(f) {
		for other := range one {
			f[one/8] ^= 1 << (one % 8)
			f[other/8] ^= 1 << (other % 8)
			if got, e := Read(f); e != api.ErrMsg || !isZero(got) {
				t.Fatalf("bits %d and %d turned: %v, %d", one, other, got, e)
			}
			f[one/8] ^= 1 << (one % 8)
			f[other/8] ^= 1 << (other % 8)
		}
	}
}

// meant answers the RIGHT message in whose Frame just these numbers stand, reckoned without the package.
func meant(nums []uint64) (m api.Msg, ok bool) {
	ok = true
	next := func(least, most uint64) int {
		if len(nums) == 0 || nums[0] < least || nums[0] > most {
			ok, nums = false, nil
			return 0
		}
		n := nums[0]
		nums = nums[1:]
		return int(n)
	}
	set := func(least uint64) api.View {
		name := next(least, 4095)
		return api.View{Add: name / 64, Del: name % 64}
	}
	m.Kind, m.From, m.To = next(0, 7), next(0, 5), next(0, 5)
	m.Inc, m.Seq, m.View = next(1, 1000000), next(1, 1000000), set(0)
	room, least := uint64(0), uint64(0)
	if holdsCells(m.Kind) {
		room = 6
	}
	for range next(0, room) {
		c := api.Cell{Node: next(least, 5)}
		c.Change = set(1)
		m.Cells = append(m.Cells, c)
		least = uint64(c.Node) + 1
	}
	room, least = 0, 0
	if holdsBook(m.Kind) {
		room = 4
	}
	for range next(0, room) {
		e := entry(next(least, 3), next(1, 1000000), next(0, 5), 0)
		if len(nums) > 0 && bitsOf(math.Float64frombits(nums[0])) == nums[0] {
			e.Value = math.Float64frombits(nums[0])
			nums = nums[1:]
		} else {
			ok = false
		}
		m.Book = append(m.Book, e)
		least = uint64(e.Key) + 1
	}
	return m, ok && len(nums) == 0
}

// readNumbers tells whether Read answers what it should of the frame of these numbers, and whether it is a message.
func readNumbers(t *testing.T, nums []uint64) bool {
	t.Helper()
	want, ok := meant(nums)
	m, e := Read(numbered(nums...))
	if ok && (e != api.OK || !alike(m, want)) || !ok && (e != 111 || !isZero(m)) {
		t.Errorf("numbers %v: %v, %d", nums, m, e)
	}
	return ok
}

// manyNumbers lists numbers to be put in the place of others.
func manyNumbers() []uint64 {
	l := []uint64{300, 4094, 4095, 4096, 4097, 65535, 65536, 999999, 1000000, 1000001, 1<<24 + 1, 1<<31 - 1, 1 << 31,
		1 << 32, 1<<32 + 1, 1<<40 + 3, 1 << 60, 1 << 61, 1<<61 + 1, 1 << 62, 1<<62 + 1, 1 << 63, 1<<63 + 1, 1<<63 + 2, 1<<63 + 5,
		math.MaxInt64, math.MaxUint64, math.MaxUint64 - 1, math.MaxUint64 - 5, nanBits, 0x7FF0000000000001, 0x7FF8000000000000, 0x7FFFFFFFFFFFFFFF, 0xFFF8000000000001,
		math.Float64bits(1), math.Float64bits(math.Inf(1)), math.Float64bits(math.Inf(-1))}
	for n := range uint64(70) {
		l = append(l, n)
	}
	return l
}

// P11.2 Read: frames whose sum is right, with one number in the place of another: each number of each kind's message.
func TestReadOtherNumber(t *testing.T) {
	for _, m := range append(oneOfEach(), head(1), head(3), head(5), head(6)) {
		nums := numbersOf(m)
		if !readNumbers(t, nums) {
			t.Fatalf("the numbers %v are no message's", nums)
		}
		for at := range nums {
			for _, n := range manyNumbers() {
				other := slices.Clone(nums)
				other[at] = n
				readNumbers(t, other)
			}
		}
	}
}

// P11.2 Read: too few numbers and too many.
func TestReadHowMany(t *testing.T) {
	for _, m := range append(oneOfEach(), head(1), head(3), head(5), head(6)) {
		nums := numbersOf(m)
		for many := range nums {
			if readNumbers(t, nums[:many]) {
				t.Errorf("the first %d numbers of %v", many, m)
			}
			if many > 0 && readNumbers(t, nums[many:]) {
				t.Errorf("all but the first %d numbers of %v", many, m)
			}
			readNumbers(t, slices.Delete(slices.Clone(nums), many, many+1))
		}
		for _, n := range manyNumbers() {
			if readNumbers(t, append(slices.Clone(nums), n)) {
				t.Errorf("the numbers of %v, and %d", m, n)
			}
			for at := range nums {
				readNumbers(t, slices.Insert(slices.Clone(nums), at, n))
			}
		}
		for more := range 100 {
			if readNumbers(t, append(slices.Clone(nums), make([]uint64, more+1)...)) {
				t.Errorf("the numbers of %v, and %d more", m, more+1)
			}
		}
	}
}

// P11.2 Read: each number in each longer form than its own, up to one of eight bytes, and longer ones.
func TestReadLongerForm(t *testing.T) {
	for _, m := range append(oneOfEach(), api.Msg{Inc: 1, Seq: 1}) {
		nums := numbersOf(m)
		for at, n := range nums {
			own := form(n)[1:]
			for zeros := 1; len(own)+zeros <= 11; zeros++ {
				long := slices.Concat([]byte{byte(len(own) + zeros)}, make([]byte, zeros), own)
				none(t, fmt.Sprint("number ", at, " with ", zeros, " zeros"), sealed(slices.Concat(formed(nums[:at]...), long, formed(nums[at+1:]...))))
			}
			for size := range 256 {
				if size != len(own) {
					other := slices.Concat([]byte{byte(size)}, own)
					f := sealed(slices.Concat(formed(nums[:at]...), other, formed(nums[at+1:]...)))
					if got, e := Read(f); e == api.OK && !bytes.Equal(reckoned(got), f) || e != api.OK && (e != 111 || !isZero(got)) {
						t.Errorf("number %d with a size of %d: %v, %d", at, size, got, e)
					}
				}
			}
		}
	}
}

// P11.2 Read: counts that are too great, or greater than any list, whatever stands behind them.
func TestReadCounts(t *testing.T) {
	huge := []uint64{7, 8, 25, 26, 50, 51, 100, 101, 255, 256, 1 << 31, 1 << 32, 1 << 61, 1<<61 + 1, 1 << 62, 1<<62 + 1, 1<<62 + 4, 1 << 63, 1<<63 + 1, 1<<63 + 6, 3 << 62, math.MaxInt64, math.MaxUint64}
	for kind := range uint64(8) {
		first := []uint64{kind, 1, 2, 3, 4, 5}
		for many := range uint64(12) {
			cells, entries := slices.Clone(first), append(slices.Clone(first), 0)
			cells, entries = append(cells, many), append(entries, many)
			for i := range many {
				cells = append(cells, i, 64)
				entries = append(entries, i, 1, 0, 7)
			}
			cells = append(cells, 0)
			if readNumbers(t, cells) != (many == 0 || many <= 6 && holdsCells(int(kind))) {
				t.Errorf("kind %d with %d cells", kind, many)
			}
			if readNumbers(t, entries) != (many == 0 || many <= 4 && holdsBook(int(kind))) {
				t.Errorf("kind %d with %d entries", kind, many)
			}
			for _, n := range append(huge, 0, 1, 2, 3, 4, 5, 6) {
				cells[6], entries[7] = n, n
				if n != many && (readNumbers(t, cells) || readNumbers(t, entries)) {
					t.Errorf("kind %d with a count of %d, and %d cells or entries", kind, n, many)
				}
			}
		}
	}
}

// P11.2 Read: every order of up to four Nodes, and of up to four Keys.
func TestReadEveryOrder(t *testing.T) {
	var grow func(l []uint64, most int, row func(n uint64) []uint64, first []uint64, last []uint64)
	grow = func(l []uint64, most int, row func(n uint64) []uint64, first []uint64, last []uint64) {
		nums := append(slices.Clone(first), uint64(len(l)))
		rises := true
		for i, n := range l {
			nums = append(nums, row(n)...)
			rises = rises && n < uint64(most) && (i == 0 || l[i-1] < n)
		}
		if readNumbers(t, append(nums, last...)) != rises {
			t.Fatalf("the order %v", l)
		}
		if len(l) == 4 {
			return
		}
		for n := range uint64(most + 2) {
			grow(append(slices.Clone(l), n), most, row, first, last)
		}
	}
	for _, kind := range []uint64{api.PutCells, api.TellCells} {
		grow(nil, 6, func(n uint64) []uint64 { return []uint64{n, 70} }, []uint64{kind, 1, 2, 3, 4, 5}, []uint64{0})
	}
	for _, kind := range []uint64{api.PutBook, api.TellBook} {
		grow(nil, 4, func(n uint64) []uint64 { return []uint64{n, 8, 5, 300} }, []uint64{kind, 1, 2, 3, 4, 5, 0}, nil)
	}
}

// P11.2 Read: every NAME, of the View and of a Change, and those that are none.
func TestReadNames(t *testing.T) {
	for name := uint64(0); name < 4400; name++ {
		view := []uint64{api.Done, 1, 2, 3, 4, name, 0, 0}
		one := []uint64{api.TellCells, 1, 2, 3, 4, 5, 2, 1, name, 5, 9, 0}
		other := []uint64{api.PutCells, 1, 2, 3, 4, 5, 2, 1, 9, 5, name, 0}
		if readNumbers(t, view) != (name < 4096) {
			t.Errorf("the View %d", name)
		}
		if want := name > 0 && name < 4096; readNumbers(t, one) != want || readNumbers(t, other) != want {
			t.Errorf("the Change %d", name)
		}
	}
}

// P11.2 Read: a Value's bits: those that are its one form, and those that aren't.
func TestReadValues(t *testing.T) {
	r := rand.New(rand.NewSource(111))
	var l []uint64
	for _, x := range slices.Concat(oddValues(), nans()) {
		l = append(l, math.Float64bits(x))
	}
	for range 3000 {
		bits := r.Uint64()
		l = append(l, bits, bits|0x7FF<<52, bits&^(0x7FF<<52), bits>>r.Intn(64))
	}
	for _, bits := range l {
		nan := bits<<1 > 0x7FF<<53
		for _, kind := range []uint64{api.PutBook, api.TellBook} {
			one := []uint64{kind, 1, 2, 3, 4, 5, 0, 1, 2, 7, 1, bits}
			two := []uint64{kind, 1, 2, 3, 4, 5, 0, 2, 0, 7, 1, bits, 3, 1, 0, 5}
			if want := !nan || bits == nanBits; readNumbers(t, one) != want || readNumbers(t, two) != want {
				t.Errorf("kind %d, the bits %x", kind, bits)
			}
		}
	}
}

// someMessage answers a message that is RIGHT.
func someMessage(r *rand.Rand) api.Msg {
	number := func() int { return 1 + r.Intn([]int{1, 255, 256, 70000, 1000000}[r.Intn(5)]) }
	set := func() api.View { return api.View{Add: r.Intn(64), Del: r.Intn(64)} }
	m := api.Msg{Kind: r.Intn(8), From: r.Intn(6), To: r.Intn(6), Inc: number(), Seq: number(), View: set()}
	for node := range 6 {
		if v := set(); holdsCells(m.Kind) && r.Intn(2) == 0 && v != (api.View{}) {
			m.Cells = append(m.Cells, api.Cell{Node: node, Change: v})
		}
	}
	for key := range 4 {
		if holdsBook(m.Kind) && r.Intn(2) == 0 {
			x := math.Float64frombits(r.Uint64() >> r.Intn(64))
			m.Book = append(m.Book, entry(key, number(), r.Intn(6), x))
		}
	}
	return m
}

// P11.1 and P11.2: random messages that are RIGHT.
func TestRandomMessages(t *testing.T) {
	r := rand.New(rand.NewSource(112))
	for range 30000 {
		m := someMessage(r)
		if !Right(m) || !alike(Copy(m), m) {
			t.Fatalf("Right or Copy of %v", m)
		}
		f, e := Frame(m)
		if e != api.OK || !bytes.Equal(f, reckoned(m)) {
			t.Fatalf("Frame(%v) = %v, %d", m, f, e)
		}
		if got, e := Read(f); e != api.OK || !alike(got, m) || !Same(got, m) {
			t.Fatalf("Read of the Frame of %v = %v, %d", m, got, e)
		}
		other := someMessage(r)
		same(t, m, other, alike(m, other))
	}
}

// P11.2 Read: whatever the bytes are, it answers just the message whose Frame they are.
func TestReadAnyBytes(t *testing.T) {
	r := rand.New(rand.NewSource(113))
	for range 50000 {
		forms := formed(numbersOf(someMessage(r))...)
		for range r.Intn(4) {
			at := r.Intn(len(forms) + 1)
			forms = slices.Replace(forms, at, min(len(forms), at+r.Intn(3)), slices.Repeat([]byte{byte(r.Intn(10))}, r.Intn(3))...)
		}
		f := sealed(forms)
		m, e := Read(f)
		if e == api.OK && (!Right(m) || !bytes.Equal(reckoned(m), f)) || e != api.OK && (e != api.ErrMsg || !isZero(m)) {
			t.Fatalf("Read(%v) = %v, %d", f, m, e)
		}
		// Numbers taken out one by one tell whether they are a message's: so none that is one is missed.
		var nums []uint64
		for rest := forms; len(rest) > 0; {
			n := uint64(0)
			size := int(rest[0])
			if size > 8 || size >= len(rest) {
				break
			}
			for _, x := range rest[1 : 1+size] {
				n = n<<8 | uint64(x)
			}
			nums = append(nums, n)
			rest = rest[1+size:]
		}
		if _, ok := meant(nums); ok && bytes.Equal(numbered(nums...), f) != (e == api.OK) {
			t.Fatalf("Read(%v) = %v, %d", f, m, e)
		}
		b := make([]byte, r.Intn(60))
		r.Read(b)
		none(t, "random bytes", b)
	}
}

// P11.2 Read: bytes that are far too many come to an end soon.
func TestReadLong(t *testing.T) {
	long := make([]byte, 50000000)
	none(t, "zeros", long)
	none(t, "sealed zeros", sealed(long))
	one := formed(numbersOf(whole(api.TellBook))...)
	none(t, "numbers and zeros", sealed(append(one, long...)))
}

// answers tells whether Answers answers what it should.
func answers(t *testing.T, q, a api.Msg, want bool) {
	t.Helper()
	if Answers(q, a) != want {
		t.Errorf("Answers(%.200v, %.200v) = %v", fmt.Sprint(q), fmt.Sprint(a), !want)
	}
}

// kindOfAnswer answers the kind that belongs to a question's; -100, if it is no question's.
func kindOfAnswer(kind int) int {
	switch kind {
	case 0:
		return 5
	case 2:
		return 6
	case 1, 3, 4:
		return 7
	}
	return -100
}

// answerOf answers an answer of a kind to a question.
func answerOf(q api.Msg, kind int) api.Msg {
	return api.Msg{Kind: kind, From: q.To, To: q.From, Inc: q.Inc, Seq: q.Seq, View: q.View}
}

// P11.3: all pairs of Kinds, those that there aren't among them, whichever lists the two have.
func TestAnswersKinds(t *testing.T) {
	kinds := append(farNumbers(), -8, -3, -2, -1, 0, 1, 2, 3, 4, 5, 6, 7, 8, 9, 16, 255)
	for _, kind := range kinds {
		q := whole(kind)
		for _, other := range kinds {
			a := answerOf(q, other)
			want := other == kindOfAnswer(kind)
			answers(t, q, a, want)
			a.Cells = six()[:2]
			answers(t, q, a, want)
			a.Cells, a.Book = nil, four()
			answers(t, q, a, want)
			answers(t, head(kind), a, want)
			// A question from a node to itself.
			q, a := q, a
			q.To, a.From = q.From, a.To
			answers(t, q, a, want)
		}
	}
}

// P11.3: each part but the Kind unlike alone, in the answer and in the question, and in both.
func TestAnswersUnlike(t *testing.T) {
	for kind := range 5 {
		q := whole(kind)
		a := answerOf(q, kindOfAnswer(kind))
		answers(t, q, a, true)
		answers(t, a, q, false)
		answers(t, q, q, false)
		answers(t, a, a, false)
		for _, by := range []int{1, -1, 2, 1 << 32, 1 << 62, math.MinInt} {
			for _, turn := range []func(m *api.Msg){
				func(m *api.Msg) { m.From += by },
				func(m *api.Msg) { m.To += by },
				func(m *api.Msg) { m.Inc += by },
				func(m *api.Msg) { m.Seq += by },
				func(m *api.Msg) { m.View.Add += by },
				func(m *api.Msg) { m.View.Del += by },
			} {
				answers(t, q, changed(a, turn), false)
				answers(t, changed(q, turn), a, false)
			}
			for _, turn := range []func(m *api.Msg){
				func(m *api.Msg) { m.Inc += by },
				func(m *api.Msg) { m.Seq += by },
				func(m *api.Msg) { m.View.Add += by },
				func(m *api.Msg) { m.View.Del += by },
			} {
				answers(t, changed(q, turn), changed(a, turn), true)
			}
		}
		for _, turn := range []func(m *api.Msg){
			func(m *api.Msg) { m.From, m.To = m.To, m.From },
			func(m *api.Msg) { m.Inc, m.Seq = m.Seq, m.Inc },
			func(m *api.Msg) { m.View.Add, m.View.Del = m.View.Del, m.View.Add },
		} {
			answers(t, q, changed(a, turn), false)
			answers(t, changed(q, turn), a, false)
			answers(t, changed(q, turn), changed(a, turn), true)
		}
	}
}

// P11.3: all nodes a question comes from and goes to, with all that an answer could.
func TestAnswersNodes(t *testing.T) {
	for kind := range 5 {
		for one := range 1296 {
			q := head(kind)
			q.From, q.To = one%6, one/6%6
			a := answerOf(q, kindOfAnswer(kind))
			a.From, a.To = one/36%6, one/216
			answers(t, q, a, a.From == q.To && a.To == q.From)
		}
	}
}

// P11.3: messages that are RIGHT, and others, each with each.
func TestAnswersInPairs(t *testing.T) {
	l := append(rights(), wrongs()...)
	for _, q := range append(rights(), wrongs()...) {
		if kind := kindOfAnswer(q.Kind); kind >= 0 && len(l) < 2400 {
			l = append(l, answerOf(q, kind))
		}
	}
	for _, q := range l {
		for _, a := range l {
			parts := a.Inc == q.Inc && a.Seq == q.Seq && a.View == q.View && a.From == q.To && a.To == q.From
			if want := parts && a.Kind == kindOfAnswer(q.Kind); Answers(q, a) != want {
				t.Fatalf("Answers(%v, %v) = %v", q, a, !want)
			}
		}
	}
}

// DOC.md, Rules: what is handed in stays as it is, spare room too, and isn't kept.
func TestArguments(t *testing.T) {
	for _, m := range manyMessages() {
		was := changed(m, func(*api.Msg) {})
		var cells []api.Cell
		var entries []api.Entry
		m.Cells, cells = roomy(m.Cells, cell(9, 9, 9))
		m.Book, entries = roomy(m.Book, entry(9, 9, 9, 9))
		all := api.Msg{Cells: slices.Clone(cells), Book: slices.Clone(entries)}
		f, e := Frame(m)
		right := Right(m)
		Same(m, m)
		Answers(m, m)
		if !alike(m, was) || !alike(api.Msg{Cells: cells, Book: entries}, all) {
			t.Fatalf("%.200v became %.200v", fmt.Sprint(was), fmt.Sprint(m))
		}
		spoilLists(m)
		if right != (e == api.OK) || right && !bytes.Equal(f, reckoned(was)) {
			t.Fatalf("Frame of %.200v became %v", fmt.Sprint(was), f)
		}
		if !right {
			continue
		}
		b, room := roomy(reckoned(was), 0xEE)
		old := slices.Clone(room)
		got, e := Read(b)
		if e != api.OK || !bytes.Equal(room, old) {
			t.Fatalf("the frame of %v became %v", was, room)
		}
		spoil(b, 0xFF)
		if !alike(got, was) {
			t.Fatalf("the frame of %v is kept: %v", was, got)
		}
	}
}

// DOC.md, Rules: an answer is the caller's own, spare room too, and no two answers share memory.
func TestOwnAnswers(t *testing.T) {
	for _, m := range rights() {
		was := changed(m, func(*api.Msg) {})
		one, other := frame(t, m), frame(t, m)
		spoil(other, 0xFF)
		if !bytes.Equal(one, reckoned(was)) || !bytes.Equal(frame(t, m), one) || !alike(m, was) {
			t.Fatalf("Frames of %v share memory", was)
		}
		first, _ := Read(one)
		second, _ := Read(one)
		_ = append(second.Cells, cell(8, 8, 8))
		_ = append(second.Book, entry(8, 8, 8, 8))
		spoilLists(second)
		if !alike(first, was) || !bytes.Equal(one, reckoned(was)) {
			t.Fatalf("what Read answers of the Frame of %v shares memory", was)
		}
		if again, e := Read(one); e != api.OK || !alike(again, was) {
			t.Fatalf("Read of the Frame of %v became %v", was, again)
		}
	}
}

// P1 and P2: any messages: every call ends, and twice with the same answer.
func TestAnyMessages(t *testing.T) {
	r := rand.New(rand.NewSource(114))
	number := func() int {
		far := farNumbers()
		switch r.Intn(4) {
		case 0:
			return far[r.Intn(len(far))]
		case 1:
			return int(r.Uint64())
		}
		return r.Intn(9) - 1
	}
	message := func() api.Msg {
		m := api.Msg{Kind: number(), From: number(), To: number(), Inc: number(), Seq: number(), View: api.View{Add: number(), Del: number()}}
		for range r.Intn(9) {
			m.Cells = append(m.Cells, cell(number(), number(), number()))
		}
		for range r.Intn(7) {
			m.Book = append(m.Book, entry(number(), number(), number(), math.Float64frombits(r.Uint64())))
		}
		return m
	}
	for range 30000 {
		a, b := message(), message()
		f, e := Frame(a)
		again, eAgain := Frame(a)
		if Right(a) != (e == api.OK) || e != eAgain || !bytes.Equal(f, again) || e != api.OK && (e != api.ErrMsg || len(f) > 0) {
			t.Fatalf("Frame(%v) = %v, %d", a, f, e)
		}
		if e == api.OK {
			_, ok := meant(numbersOf(a))
			if !ok {
				t.Fatalf("%v is not RIGHT", a)
			}
		}
		if Same(a, b) != alike(a, b) || !Same(a, a) || !alike(Copy(a), a) || Answers(a, b) != Answers(a, b) {
			t.Fatalf("%v and %v", a, b)
		}
	}
}

// P1: lists that are long come to an end soon.
func TestLongLists(t *testing.T) {
	long := make([]api.Cell, 1000000)
	for i := range long {
		long[i] = cell(i, 1+i%63, i%7)
	}
	book := make([]api.Entry, 1000000)
	for i := range book {
		book[i] = entry(i, 1+i%1000, i%6, math.NaN())
	}
	for kind := -1; kind <= 8; kind++ {
		for _, m := range []api.Msg{
			changed(head(kind), func(m *api.Msg) { m.Cells = long }),
			changed(head(kind), func(m *api.Msg) { m.Book = book }),
			changed(head(kind), func(m *api.Msg) { m.Cells, m.Book = long, book }),
		} {
			f, e := Frame(m)
			if Right(m) || e != api.ErrMsg || len(f) != 0 {
				t.Errorf("kind %d with long lists: %v, %d", kind, f, e)
			}
			if c := Copy(m); !alike(c, m) || !Same(c, m) || Answers(m, c) {
				t.Errorf("kind %d: Copy of long lists", kind)
			}
			cut := m
			cut.Cells, cut.Book = cut.Cells[:len(cut.Cells)/2], cut.Book[:len(cut.Book)/2]
			if Same(m, cut) {
				t.Errorf("kind %d: Same of long lists and their first halves", kind)
			}
		}
	}
}
