package cells

import (
	"math"
	"math/rand"
	"slices"
	"testing"

	"ropeway/api"
)

// cell answers a cell in few words.
func cell(node, add, del int) api.Cell {
	return api.Cell{Node: node, Change: api.View{Add: add, Del: del}}
}

// wrongNodes lists numbers that are no node.
func wrongNodes() []int {
	return []int{-1, -2, -5, -6, -58, -59, -63, -64, 6, 7, 31, 32, 62, 63, 64, 65, 69, 128, 256, 1 << 31, 1 << 32,
		1<<32 + 1, 1 << 62, math.MinInt, math.MinInt + 1, math.MinInt + 5, math.MaxInt, math.MaxInt - 1, -1 << 31, -1 << 32, -1<<32 + 3}
}

// wrongParts lists numbers that are no set of nodes.
func wrongParts() []int {
	return []int{-1, -2, -63, -64, -65, 64, 65, 127, 128, 4095, 4096, 1 << 31, 1 << 32, 1<<32 + 1, 1 << 62,
		math.MinInt, math.MinInt + 1, math.MinInt + 63, math.MaxInt, math.MaxInt - 1, -1 << 32, -1<<32 + 5}
}

// wrongChanges lists sets that no cell of CELLS has: the one without any change, and those that aren't RIGHT.
func wrongChanges() []api.View {
	l := []api.View{{}}
	for _, wrong := range wrongParts() {
		l = append(l, api.View{Add: wrong}, api.View{Del: wrong}, api.View{Add: wrong, Del: wrong},
			api.View{Add: 63, Del: wrong}, api.View{Add: wrong, Del: 63})
	}
	// Two wrong parts that make a small NAME together, or none at all.
	return append(l, api.View{Add: 1, Del: -64}, api.View{Add: -1, Del: 64}, api.View{Add: -1, Del: 65}, api.View{Add: 1, Del: -63})
}

// everyChange lists all sets that a cell can have, in the order of their NAMES.
func everyChange() []api.View {
	var l []api.View
	for add := range 64 {
		for del := range 64 {
			if add+del > 0 {
				l = append(l, api.View{Add: add, Del: del})
			}
		}
	}
	return l
}

// sizeOf counts the changes of a set that is RIGHT.
func sizeOf(v api.View) int {
	size := 0
	for _, worth := range []int{1, 2, 4, 8, 16, 32} {
		size += v.Add/worth%2 + v.Del/worth%2
	}
	return size
}

// rankOf answers a number that is the lesser, the further ahead a set stands in the order of layer 5.
func rankOf(v api.View) int { return 4096*sizeOf(v) + 64*v.Add + v.Del }

// row is CELLS as the tests reckon with them: of each node the place of its Change among someChanges, or -1.
type row [api.MaxNodes]int

// someChanges lists sets that a cell can have, not in the order of layer 5.
func someChanges() []api.View { return []api.View{{Add: 8, Del: 2}, {Add: 32}, {Del: 63}} }

// everyRow lists all rows with the first many of someChanges.
func everyRow(many int) []row {
	l := []row{{}}
	for node := range api.MaxNodes {
		var longer []row
		for _, r := range l {
			for place := -1; place < many; place++ {
				r[node] = place
				longer = append(longer, r)
			}
		}
		l = longer
	}
	return l
}

// list answers the CELLS of a row.
func (r row) list() []api.Cell {
	var l []api.Cell
	for node, place := range r {
		if place >= 0 {
			l = append(l, api.Cell{Node: node, Change: someChanges()[place]})
		}
	}
	return l
}

// six answers a cell of each node, all unlike.
func six() []api.Cell {
	return []api.Cell{cell(0, 32, 0), cell(1, 0, 1), cell(2, 63, 63), cell(3, 3, 0), cell(4, 0, 32), cell(5, 1, 0)}
}

// wrongLists lists what are no CELLS.
func wrongLists() [][]api.Cell {
	l := [][]api.Cell{
		{cell(0, 1, 0), cell(0, 1, 0)},
		{cell(5, 1, 0), cell(5, 2, 0)},
		{cell(1, 1, 0), cell(0, 1, 0)},
		{cell(5, 1, 0), cell(4, 1, 0), cell(3, 1, 0), cell(2, 1, 0), cell(1, 1, 0), cell(0, 1, 0)},
		{cell(0, 1, 0), cell(2, 1, 0), cell(1, 1, 0)},
		{cell(0, 1, 0), cell(2, 1, 0), cell(0, 1, 0)},
		append(six(), cell(5, 1, 0)),
		append(six(), cell(6, 1, 0)),
		append([]api.Cell{cell(-1, 1, 0)}, six()...),
		append(six(), six()...),
		slices.Repeat([]api.Cell{cell(2, 9, 1)}, 20000),
		slices.Repeat([]api.Cell{cell(9, 999, 999)}, 20000),
	}
	// A node twice, and two that fall: ahead, in the midst, and at the end.
	for at := range 6 {
		twice := slices.Insert(six(), at, six()[at])
		unlike := slices.Insert(six(), at, cell(at, 7, 7))
		l = append(l, twice, unlike)
		if at > 0 {
			falls := six()
			falls[at-1], falls[at] = falls[at], falls[at-1]
			l = append(l, falls)
		}
	}
	for _, node := range wrongNodes() {
		l = append(l, []api.Cell{cell(node, 1, 0)}, []api.Cell{cell(2, 1, 0), cell(node, 1, 0)}, []api.Cell{cell(node, 1, 0), cell(2, 1, 0)})
	}
	for _, wrong := range wrongChanges() {
		for at := range 6 {
			b := six()
			b[at].Change = wrong
			l = append(l, b, []api.Cell{b[at]}, b[at:], b[:at+1])
		}
	}
	return l
}

// P10.1 Check: nothing, one cell of each node with each Change there is, and all rows.
func TestCheckCells(t *testing.T) {
	for _, l := range [][]api.Cell{nil, {}, six(), six()[1:], six()[:5], {cell(0, 1, 0), cell(5, 0, 1)}, {cell(2, 7, 7), cell(3, 7, 7)}} {
		if e := Check(l); e != api.OK {
			t.Errorf("Check(%v) = %d", l, e)
		}
	}
	for node := range 6 {
		for _, v := range everyChange() {
			if e := Check([]api.Cell{{Node: node, Change: v}}); e != api.OK {
				t.Fatalf("Check of %v of node %d = %d", v, node, e)
			}
		}
	}
	for _, r := range everyRow(3) {
		if e := Check(r.list()); e != api.OK {
			t.Fatalf("Check(%v) = %d", r.list(), e)
		}
	}
}

// P10.1 Check: what are no CELLS.
func TestCheckWrong(t *testing.T) {
	if api.ErrCells != 101 || api.MaxNodes != 6 {
		t.Fatal("the error's number, or how many nodes there are")
	}
	for _, l := range wrongLists() {
		if e := Check(l); e != 101 {
			t.Errorf("Check(%v) = %d", l[:min(len(l), 7)], e)
		}
	}
}

// P10.1 Check: every order of nodes, right and wrong ones, up to five of them.
func TestCheckEveryOrder(t *testing.T) {
	var grow func(l []api.Cell, rises bool)
	grow = func(l []api.Cell, rises bool) {
		want := api.OK
		if !rises {
			want = api.ErrCells
		}
		if e := Check(l); e != want {
			t.Fatalf("Check(%v) = %d", l, e)
		}
		if len(l) == 5 {
			return
		}
		for node := -1; node <= 6; node++ {
			behind := len(l) == 0 || l[len(l)-1].Node < node
			grow(append(slices.Clone(l), cell(node, 2, 1)), rises && behind && node >= 0 && node <= 5)
		}
	}
	grow(nil, true)
}

// P10.1 Check: every Change near those that are RIGHT, in the first cell, in a middle one and in the last.
func TestCheckEveryChange(t *testing.T) {
	for add := -70; add <= 140; add++ {
		for del := -70; del <= 140; del++ {
			want := api.OK
			if add < 0 || add > 63 || del < 0 || del > 63 || add == 0 && del == 0 {
				want = api.ErrCells
			}
			for at := range 3 {
				l := []api.Cell{cell(1, 4, 0), cell(2, 0, 4), cell(4, 4, 4)}
				l[at].Change = api.View{Add: add, Del: del}
				if e := Check(l); e != want {
					t.Fatalf("Check(%v) = %d", l, e)
				}
			}
		}
	}
}

// P10.1 Of: a node's Change, or nothing and false: every node of all rows, right nodes and wrong ones.
func TestOfEveryRow(t *testing.T) {
	nodes := append([]int{0, 1, 2, 3, 4, 5}, wrongNodes()...)
	for _, r := range everyRow(2) {
		l := r.list()
		for _, node := range nodes {
			want, has := api.View{}, false
			if node >= 0 && node < 6 && r[node] >= 0 {
				want, has = someChanges()[r[node]], true
			}
			if v, ok := Of(l, node); v != want || ok != has {
				t.Fatalf("Of(%v, %d) = %v, %v", l, node, v, ok)
			}
		}
	}
}

// P10.1 Of: known ones: nothing, all six, and one node alone.
func TestOfKnown(t *testing.T) {
	for node := -1; node <= 6; node++ {
		for _, none := range [][]api.Cell{nil, {}} {
			if v, ok := Of(none, node); ok || v != (api.View{}) {
				t.Errorf("Of nothing, %d = %v, %v", node, v, ok)
			}
		}
		for other := range 6 {
			v, ok := Of([]api.Cell{cell(other, 5, 9)}, node)
			if ok != (node == other) || ok && v != (api.View{Add: 5, Del: 9}) || !ok && v != (api.View{}) {
				t.Errorf("Of the cell of %d, %d = %v, %v", other, node, v, ok)
			}
		}
	}
	for node, c := range six() {
		if v, ok := Of(six(), node); !ok || v != c.Change {
			t.Errorf("Of all six, %d = %v, %v", node, v, ok)
		}
	}
}

// P10.2 Merge, News and Clash: known ones.
func TestTwoKnown(t *testing.T) {
	a := []api.Cell{cell(1, 8, 0), cell(4, 0, 2)}
	b := []api.Cell{cell(0, 8, 2), cell(4, 16, 0)}
	all := six()
	other := six()
	for i := range other {
		other[i].Change = api.View{Add: 1 + i, Del: 40}
	}
	for i, c := range []struct {
		a, b, merged, news []api.Cell
		clash              bool
	}{
		{a, b, []api.Cell{b[0], a[0], a[1]}, b[:1], true},
		{b, a, []api.Cell{b[0], a[0], b[1]}, a[:1], true},
		{nil, nil, nil, nil, false},
		{nil, []api.Cell{}, nil, nil, false},
		{nil, a, a, a, false},
		{a, nil, a, nil, false},
		{[]api.Cell{}, all, all, all, false},
		{all, []api.Cell{}, all, nil, false},
		{all, all, all, nil, false},
		{all, other, all, nil, true},
		{other, all, other, nil, true},
		{a, a, a, nil, false},
		{a[:1], b, []api.Cell{b[0], a[0], b[1]}, b, false},
		{a[1:], b, []api.Cell{b[0], a[1]}, b[:1], true},
		{a, all, []api.Cell{all[0], a[0], all[2], all[3], a[1], all[5]}, []api.Cell{all[0], all[2], all[3], all[5]}, true},
		{all[:3], all[3:], all, all[3:], false},
		{all[3:], all[:3], all, all[:3], false},
		{all[:4], all[2:], all, all[4:], false},
		{all[:1], all[5:], []api.Cell{all[0], all[5]}, all[5:], false},
		{[]api.Cell{cell(3, 1, 0)}, []api.Cell{cell(3, 0, 1)}, []api.Cell{cell(3, 1, 0)}, nil, true},
		{[]api.Cell{cell(3, 1, 0)}, []api.Cell{cell(3, 1, 1)}, []api.Cell{cell(3, 1, 0)}, nil, true},
		{[]api.Cell{cell(0, 1, 0)}, []api.Cell{cell(5, 2, 0)}, []api.Cell{cell(0, 1, 0), cell(5, 2, 0)}, []api.Cell{cell(5, 2, 0)}, false},
	} {
		if m := Merge(c.a, c.b); !slices.Equal(m, c.merged) {
			t.Errorf("%d: Merge(%v, %v) = %v", i, c.a, c.b, m)
		}
		if n := News(c.a, c.b); !slices.Equal(n, c.news) {
			t.Errorf("%d: News(%v, %v) = %v", i, c.a, c.b, n)
		}
		if Clash(c.a, c.b) != c.clash || Clash(c.b, c.a) != c.clash {
			t.Errorf("%d: Clash(%v, %v) = %v, %v", i, c.a, c.b, Clash(c.a, c.b), Clash(c.b, c.a))
		}
	}
}

// P10.2: all rows of two Changes, each with each: so no node in common, one, some and all, alike and unlike.
func TestTwoOfEveryRow(t *testing.T) {
	all := everyRow(2)
	for _, p := range all {
		a := p.list()
		for _, q := range all {
			b := q.list()
			merged, news, clash := p, row{-1, -1, -1, -1, -1, -1}, false
			for node := range p {
				if p[node] < 0 {
					merged[node], news[node] = q[node], q[node]
				}
				clash = clash || p[node] >= 0 && q[node] >= 0 && p[node] != q[node]
			}
			if m := Merge(a, b); !slices.Equal(m, merged.list()) {
				t.Fatalf("Merge(%v, %v) = %v", a, b, m)
			}
			if n := News(a, b); !slices.Equal(n, news.list()) {
				t.Fatalf("News(%v, %v) = %v", a, b, n)
			}
			if Clash(a, b) != clash {
				t.Fatalf("Clash(%v, %v) = %v", a, b, !clash)
			}
		}
	}
}

// P10.2: two Changes of one node clash if they differ in one added or removed node alone, and the first stays.
func TestTwoChangesOfOneNode(t *testing.T) {
	for _, x := range everyChange() {
		for _, y := range []api.View{x, {Add: x.Add ^ 1, Del: x.Del}, {Add: x.Add, Del: x.Del ^ 32}, {Add: x.Del, Del: x.Add}, {Add: 63, Del: 63}} {
			if y == (api.View{}) {
				continue
			}
			for _, node := range []int{0, 3, 5} {
				a, b := []api.Cell{{Node: node, Change: x}}, []api.Cell{{Node: node, Change: y}}
				if Clash(a, b) != (x != y) {
					t.Fatalf("Clash(%v, %v) = %v", a, b, x == y)
				}
				if m := Merge(a, b); !slices.Equal(m, a) {
					t.Fatalf("Merge(%v, %v) = %v", a, b, m)
				}
				if n := News(a, b); len(n) != 0 {
					t.Fatalf("News(%v, %v) = %v", a, b, n)
				}
			}
		}
	}
}

// P10.2 Changes: known ones, the chapter's example first.
func TestChangesKnown(t *testing.T) {
	for i, c := range []struct {
		l    []api.Cell
		want []api.View
	}{
		{[]api.Cell{cell(0, 8, 0), cell(1, 8, 0)}, []api.View{{Add: 8}}},
		{nil, nil},
		{[]api.Cell{}, nil},
		{[]api.Cell{cell(5, 0, 2)}, []api.View{{Del: 2}}},
		{[]api.Cell{cell(0, 8, 0), cell(3, 0, 2), cell(5, 8, 0)}, []api.View{{Del: 2}, {Add: 8}}},
		{[]api.Cell{cell(0, 8, 2), cell(1, 8, 0), cell(4, 0, 2)}, []api.View{{Del: 2}, {Add: 8}, {Add: 8, Del: 2}}},
		{[]api.Cell{cell(0, 1, 0), cell(1, 0, 63)}, []api.View{{Add: 1}, {Del: 63}}},
		{[]api.Cell{cell(0, 0, 63), cell(1, 1, 0)}, []api.View{{Add: 1}, {Del: 63}}},
		{[]api.Cell{cell(0, 32, 0), cell(1, 0, 32)}, []api.View{{Del: 32}, {Add: 32}}},
		{[]api.Cell{cell(0, 3, 0), cell(1, 32, 0), cell(2, 2, 1)}, []api.View{{Add: 32}, {Add: 2, Del: 1}, {Add: 3}}},
		{six(), []api.View{{Del: 1}, {Del: 32}, {Add: 1}, {Add: 32}, {Add: 3}, {Add: 63, Del: 63}}},
		{slices.Repeat([]api.Cell{cell(2, 6, 5)}, 6), []api.View{{Add: 6, Del: 5}}},
	} {
		if got := Changes(c.l); !slices.Equal(got, c.want) {
			t.Errorf("%d: Changes(%v) = %v", i, c.l, got)
		}
	}
}

// P10.2 Changes: each set with some others, either of them first.
func TestChangesInPairs(t *testing.T) {
	all := everyChange()
	for _, x := range all {
		for i := 0; i < len(all); i += 61 {
			y := all[i]
			want := []api.View{x, y}
			if rankOf(y) < rankOf(x) {
				want = []api.View{y, x}
			} else if x == y {
				want = want[:1]
			}
			for _, l := range [][]api.Cell{{{Node: 1, Change: x}, {Node: 4, Change: y}}, {{Node: 1, Change: y}, {Node: 4, Change: x}}} {
				if got := Changes(l); !slices.Equal(got, want) {
					t.Fatalf("Changes(%v) = %v", l, got)
				}
			}
		}
	}
}

// P10.2 Changes: six unlike ones in every order of the nodes.
func TestChangesEveryOrder(t *testing.T) {
	want := []api.View{{Del: 1}, {Add: 1}, {Add: 32}, {Add: 1, Del: 1}, {Add: 3}, {Del: 7}}
	var grow func(l []api.Cell)
	grow = func(l []api.Cell) {
		if len(l) == 6 {
			if got := Changes(l); !slices.Equal(got, want) {
				t.Fatalf("Changes(%v) = %v", l, got)
			}
			return
		}
		for _, v := range want {
			if !slices.ContainsFunc(l, func(c api.Cell) bool { return c.Change == v }) {
				grow(append(slices.Clone(l), api.Cell{Node: len(l), Change: v}))
			}
		}
	}
	grow(nil)
}

// someCells answers CELLS with Changes out of few, so that the same ones come often.
func someCells(r *rand.Rand, few []api.View) []api.Cell {
	var l []api.Cell
	for node := range 6 {
		if r.Intn(3) > 0 {
			l = append(l, api.Cell{Node: node, Change: few[r.Intn(len(few))]})
		}
	}
	return l
}

// P10.2: what holds of CELLS, whatever is in them.
func TestTwoHoldTogether(t *testing.T) {
	r := rand.New(rand.NewSource(102))
	all := everyChange()
	for range 20000 {
		few := make([]api.View, 1+r.Intn(8))
		for i := range few {
			few[i] = all[r.Intn(len(all))]
		}
		a, b := someCells(r, few), someCells(r, few)
		merged, news := Merge(a, b), News(a, b)
		if Check(merged) != api.OK || Check(news) != api.OK {
			t.Fatalf("of %v and %v come %v and %v, which are no CELLS", a, b, merged, news)
		}
		if !slices.Equal(Merge(a, news), merged) || !slices.Equal(Merge(news, a), merged) || len(News(merged, b)) != 0 || len(merged) != len(a)+len(news) {
			t.Fatalf("Merge(%v, %v) = %v is not what the news %v bring", a, b, merged, news)
		}
		if Clash(a, merged) || Clash(a, news) || Clash(b, merged) != Clash(a, b) || Clash(a, b) == slices.Equal(merged, Merge(b, a)) {
			t.Fatalf("Clash(%v, %v) = %v", a, b, Clash(a, b))
		}
		var want []api.View
		for _, c := range merged {
			if !slices.Contains(want, c.Change) {
				want = append(want, c.Change)
			}
		}
		slices.SortFunc(want, func(x, y api.View) int { return rankOf(x) - rankOf(y) })
		if got := Changes(merged); !slices.Equal(got, want) {
			t.Fatalf("Changes(%v) = %v", merged, got)
		}
	}
}

// P1 and P2: what are no CELLS comes to an end, and twice to the same.
func TestWrongCellsEnd(t *testing.T) {
	l := append(wrongLists(), nil, []api.Cell{}, six())
	for _, a := range l {
		for _, b := range append(l[:12:12], nil, six(), six()[2:4], []api.Cell{cell(math.MinInt, math.MaxInt, -1)}) {
			for _, two := range [][2][]api.Cell{{a, b}, {b, a}} {
				x, y := two[0], two[1]
				if !slices.Equal(Merge(x, y), Merge(x, y)) || !slices.Equal(News(x, y), News(x, y)) || Clash(x, y) != Clash(x, y) {
					t.Fatalf("answers of lists of %d and %d changed", len(x), len(y))
				}
			}
		}
		if !slices.Equal(Changes(a), Changes(a)) {
			t.Fatalf("Changes of a list of %d changed", len(a))
		}
		for _, node := range append([]int{0, 1, 2, 3, 4, 5}, wrongNodes()...) {
			v, ok := Of(a, node)
			if again, okAgain := Of(a, node); v != again || ok != okAgain || !ok && v != (api.View{}) {
				t.Fatalf("Of a list of %d, %d = %v, %v", len(a), node, v, ok)
			}
		}
	}
}

// P1: lists that are long come to an end soon, each with each.
func TestLongLists(t *testing.T) {
	long := make([]api.Cell, 1000000)
	for i := range long {
		long[i] = cell(i, 1000000-i, i%7)
	}
	same := slices.Repeat([]api.Cell{cell(9, 1, 0)}, 1000000)
	for _, l := range [][]api.Cell{long, same} {
		if Check(l) != api.ErrCells {
			t.Error("Check")
		}
		Changes(l)
		for _, other := range [][]api.Cell{nil, six(), long, same} {
			Merge(l, other)
			Merge(other, l)
			News(l, other)
			News(other, l)
			Clash(l, other)
			Clash(other, l)
		}
		Of(l, math.MinInt)
	}
}

// DOC.md, Rules: what is handed in stays as it is, spare room too, and an answer is new memory, spare room too.
func TestMemory(t *testing.T) {
	full := func(add int) []api.Cell {
		return []api.Cell{cell(0, add, 9), cell(1, 1, add), cell(2, add, 9), cell(3, 0, add), cell(4, add, 0), cell(5, add, 9)}
	}
	for aEnd := range 7 {
		for bEnd := range 7 {
			a, b := full(20), full(33)
			for _, call := range []func() []api.Cell{
				func() []api.Cell { return Merge(a[:aEnd], b[:bEnd]) },
				func() []api.Cell { return Merge(b[:bEnd], a[:aEnd]) },
				func() []api.Cell { return Merge(a[:aEnd], nil) },
				func() []api.Cell { return Merge(nil, a[:aEnd]) },
				func() []api.Cell { return News(a[:aEnd], b[:bEnd]) },
				func() []api.Cell { return News(nil, b[:bEnd]) },
			} {
				got := call()
				was := slices.Clone(got)
				again := call()
				Check(a[:aEnd])
				Of(a[:aEnd], 5)
				Changes(b[:bEnd])
				Clash(a[:aEnd], b[:bEnd])
				if !slices.Equal(a, full(20)) || !slices.Equal(b, full(33)) {
					t.Fatalf("arguments became %v and %v", a, b)
				}
				clear(again[:cap(again)])
				if !slices.Equal(a, full(20)) || !slices.Equal(b, full(33)) || !slices.Equal(got, was) {
					t.Fatal("an answer shares memory with an argument, or with another answer")
				}
				clear(a)
				clear(b)
				if !slices.Equal(got, was) {
					t.Fatal("an argument is kept in an answer")
				}
				copy(a, full(20))
				copy(b, full(33))
			}
		}
	}
}

// DOC.md, Rules: so of Changes, whose answer is a list of another kind.
func TestMemoryOfChanges(t *testing.T) {
	for end := range 7 {
		l := six()
		got := Changes(l[:end])
		was := slices.Clone(got)
		if !slices.Equal(l, six()) {
			t.Fatalf("the argument became %v", l)
		}
		again := Changes(l[:end])
		clear(again[:cap(again)])
		clear(l)
		if !slices.Equal(got, was) {
			t.Fatalf("Changes of the first %d became %v", end, got)
		}
		if again = Changes(six()[:end]); !slices.Equal(again, was) {
			t.Fatalf("Changes of the first %d = %v, once it was %v", end, again, was)
		}
	}
}
