package tag

import (
	"math"
	"math/rand"
	"slices"
	"testing"

	"ropeway/api"
)

// rightNums lists numbers that a tag may have, the edges and some between them.
func rightNums() []int {
	return []int{0, 1, 2, 3, 5, 6, 7, 63, 255, 256, 65535, 65536, 499999, 999998, 999999, 1000000}
}

// wrongNums lists numbers that no tag has.
func wrongNums() []int {
	return []int{-1, -2, -6, -9, -999999, -1000000, -1000001, 1000001, 1000002, 2000000, 1 << 31, 1 << 32,
		1<<32 + 1, 1<<32 + 1000000, 1 << 62, math.MinInt, math.MinInt + 1, math.MinInt + 1000000,
		math.MaxInt, math.MaxInt - 1, math.MaxInt - 1000000, -1 << 31, -1 << 32}
}

// wrongNodes lists numbers that are no node.
func wrongNodes() []int {
	return []int{-1, -2, -5, -6, -64, 6, 7, 8, 31, 32, 63, 64, 256, 1 << 31, 1 << 32, 1<<32 + 1, 1 << 62,
		math.MinInt, math.MinInt + 1, math.MinInt + 5, math.MaxInt, math.MaxInt - 1, -1 << 31, -1 << 32}
}

// allTags lists tags of right and wrong numbers and nodes, each with each.
func allTags() []api.Tag {
	l := []api.Tag{}
	for _, num := range append(rightNums(), wrongNums()...) {
		for _, node := range append([]int{0, 1, 2, 3, 4, 5}, wrongNodes()...) {
			l = append(l, api.Tag{Num: num, Node: node})
		}
	}
	return l
}

// someTag answers a tag out of few, so that the same Num, and the same tag, come often.
func someTag(r *rand.Rand) api.Tag {
	return api.Tag{Num: r.Intn(9) - 4, Node: r.Intn(8) - 1}
}

// someTags answers up to many of them.
func someTags(r *rand.Rand, many int) []api.Tag {
	l := make([]api.Tag, r.Intn(many+1))
	for i := range l {
		l[i] = someTag(r)
	}
	return l
}

// P6.1 Right: known ones.
func TestRightKnown(t *testing.T) {
	for _, c := range []struct {
		tag  api.Tag
		want bool
	}{
		{api.Tag{}, true},
		{api.Tag{Num: 0, Node: 1}, false},
		{api.Tag{Num: 0, Node: 5}, false},
		{api.Tag{Num: 0, Node: 6}, false},
		{api.Tag{Num: 0, Node: -1}, false},
		{api.Tag{Num: 0, Node: math.MinInt}, false},
		{api.Tag{Num: 1, Node: 0}, true},
		{api.Tag{Num: 1, Node: 5}, true},
		{api.Tag{Num: 1, Node: 6}, false},
		{api.Tag{Num: 1, Node: -1}, false},
		{api.Tag{Num: 1000000, Node: 0}, true},
		{api.Tag{Num: 1000000, Node: 5}, true},
		{api.Tag{Num: 1000000, Node: 6}, false},
		{api.Tag{Num: 1000000, Node: -1}, false},
		{api.Tag{Num: 1000001, Node: 0}, false},
		{api.Tag{Num: 1000001, Node: 5}, false},
		{api.Tag{Num: -1, Node: 0}, false},
		{api.Tag{Num: -1, Node: 5}, false},
		{api.Tag{Num: math.MinInt}, false},
		{api.Tag{Num: math.MaxInt}, false},
		{api.Tag{Num: math.MaxInt, Node: math.MaxInt}, false},
		{api.Tag{Num: math.MinInt, Node: math.MinInt}, false},
	} {
		if Right(c.tag) != c.want {
			t.Errorf("Right(%v) = %v", c.tag, !c.want)
		}
	}
}

// P6.1 Right: every number there is, and a few beside them, of every node.
func TestRightEveryNum(t *testing.T) {
	for num := -1000; num <= 1001000; num++ {
		for node := range 6 {
			want := 1 <= num && num <= 1000000 || num == 0 && node == 0
			if Right(api.Tag{Num: num, Node: node}) != want {
				t.Fatalf("Right(%d of %d) = %v", num, node, !want)
			}
		}
	}
}

// P6.1 Right: a wrong number, or a wrong node, is enough.
func TestRightWrong(t *testing.T) {
	for _, num := range wrongNums() {
		for _, node := range append(wrongNodes(), 0, 1, 2, 3, 4, 5) {
			if Right(api.Tag{Num: num, Node: node}) {
				t.Errorf("Right(%d of %d)", num, node)
			}
		}
	}
	for _, num := range rightNums() {
		for _, node := range wrongNodes() {
			if Right(api.Tag{Num: num, Node: node}) {
				t.Errorf("Right(%d of %d)", num, node)
			}
		}
	}
}

// rising lists tags, each of them older than all behind it.
func rising() []api.Tag {
	return []api.Tag{
		{Num: math.MinInt, Node: math.MinInt}, {Num: math.MinInt, Node: 5}, {Num: math.MinInt, Node: math.MaxInt},
		{Num: -1000000, Node: 5}, {Num: -1, Node: 0}, {Num: -1, Node: 9},
		{Num: 0, Node: math.MinInt}, {Num: 0, Node: -1}, {}, {Num: 0, Node: 1}, {Num: 0, Node: 5},
		{Num: 1, Node: 0}, {Num: 1, Node: 4}, {Num: 1, Node: 5}, {Num: 1, Node: 6},
		{Num: 2, Node: -1}, {Num: 2, Node: 0}, {Num: 2, Node: 1},
		{Num: 3, Node: 1}, {Num: 3, Node: 2}, {Num: 4, Node: 0},
		{Num: 999999, Node: 5}, {Num: 1000000, Node: 0}, {Num: 1000000, Node: 5},
		{Num: 1000001, Node: 0}, {Num: 1 << 32, Node: 0},
		{Num: math.MaxInt, Node: math.MinInt}, {Num: math.MaxInt, Node: 0}, {Num: math.MaxInt, Node: math.MaxInt},
	}
}

// P6.1 Less: known ones: by Num first, then by Node.
func TestLessKnown(t *testing.T) {
	l := rising()
	for i, a := range l {
		for k, b := range l {
			if Less(a, b) != (i < k) {
				t.Errorf("Less(%v, %v) = %v", a, b, i >= k)
			}
		}
	}
}

// P6.1 Less: all pairs, wrong tags among them.
func TestLessEveryPair(t *testing.T) {
	l := allTags()
	for _, a := range l {
		for _, b := range l {
			want := a.Num < b.Num || a.Num == b.Num && a.Node < b.Node
			if Less(a, b) != want {
				t.Fatalf("Less(%v, %v) = %v", a, b, !want)
			}
		}
	}
}

// P6.1 Max: known ones.
func TestMaxKnown(t *testing.T) {
	for _, c := range []struct {
		l    []api.Tag
		want api.Tag
	}{
		{nil, api.Tag{}},
		{[]api.Tag{}, api.Tag{}},
		{[]api.Tag{{}}, api.Tag{}},
		{[]api.Tag{{}, {}}, api.Tag{}},
		{[]api.Tag{{Num: 3, Node: 1}}, api.Tag{Num: 3, Node: 1}},
		{[]api.Tag{{Num: 3, Node: 1}, {}}, api.Tag{Num: 3, Node: 1}},
		{[]api.Tag{{}, {Num: 3, Node: 1}}, api.Tag{Num: 3, Node: 1}},
		{[]api.Tag{{Num: 3, Node: 2}, {Num: 4}, {Num: 3, Node: 1}}, api.Tag{Num: 4}},
		{[]api.Tag{{Num: 3, Node: 2}, {Num: 3, Node: 5}, {Num: 3, Node: 1}}, api.Tag{Num: 3, Node: 5}},
		{[]api.Tag{{Num: 3, Node: 5}, {Num: 3, Node: 2}}, api.Tag{Num: 3, Node: 5}},
		{[]api.Tag{{Num: 7}, {Num: 7}}, api.Tag{Num: 7}},
		{[]api.Tag{{Num: 999999, Node: 5}, {Num: 1000000}}, api.Tag{Num: 1000000}},
		{[]api.Tag{{Num: -1}}, api.Tag{Num: -1}},
		{[]api.Tag{{Num: -3, Node: 4}, {Num: -2, Node: 1}, {Num: -2}}, api.Tag{Num: -2, Node: 1}},
		{[]api.Tag{{Node: -1}}, api.Tag{Node: -1}},
		{[]api.Tag{{Num: -1, Node: 5}, {Node: -1}}, api.Tag{Node: -1}},
		{[]api.Tag{{Num: math.MinInt, Node: math.MinInt}}, api.Tag{Num: math.MinInt, Node: math.MinInt}},
		{[]api.Tag{{Num: math.MaxInt}, {Num: math.MinInt}}, api.Tag{Num: math.MaxInt}},
		{[]api.Tag{{Num: 1, Node: math.MinInt}, {Num: 1, Node: math.MaxInt}, {Num: 1}}, api.Tag{Num: 1, Node: math.MaxInt}},
	} {
		if got := Max(c.l...); got != c.want {
			t.Errorf("Max(%v) = %v, want %v", c.l, got, c.want)
		}
	}
	if Max() != (api.Tag{}) || Max(api.Tag{Num: 2}, api.Tag{Num: 1, Node: 5}) != (api.Tag{Num: 2}) {
		t.Error("tags one by one")
	}
}

// P6.1 Max: of the tags in their order, in any other order, and of all beginnings.
func TestMaxOfMany(t *testing.T) {
	r := rand.New(rand.NewSource(61))
	l := rising()
	for many := 1; many <= len(l); many++ {
		some := slices.Clone(l[:many])
		for range 20 {
			if got := Max(some...); got != l[many-1] {
				t.Fatalf("Max(%v) = %v", some, got)
			}
			r.Shuffle(many, func(i, k int) { some[i], some[k] = some[k], some[i] })
		}
	}
	for range 5000 {
		some := someTags(r, 8)
		if len(some) == 0 {
			continue
		}
		got := Max(some...)
		if !slices.Contains(some, got) || slices.ContainsFunc(some, func(t api.Tag) bool { return Less(got, t) }) {
			t.Fatalf("Max(%v) = %v", some, got)
		}
	}
	long := slices.Repeat([]api.Tag{{Num: 4, Node: 2}, {Num: 3, Node: 5}}, 100000)
	if Max(long...) != (api.Tag{Num: 4, Node: 2}) || Max(append(long, api.Tag{Num: 4, Node: 3})...) != (api.Tag{Num: 4, Node: 3}) {
		t.Error("a long list")
	}
}

// P6.2 Next: known ones that go well, the chapter's example first.
func TestNextKnown(t *testing.T) {
	for _, c := range []struct {
		node, last int
		seen       []api.Tag
		num        int
	}{
		{2, 4, []api.Tag{{Num: 7, Node: 5}}, 8},
		{2, 7, []api.Tag{{Num: 4, Node: 5}}, 8},
		{2, 7, []api.Tag{{Num: 7, Node: 5}}, 8},
		{0, 0, nil, 1},
		{5, 0, []api.Tag{}, 1},
		{5, 41, nil, 42},
		{3, 0, []api.Tag{{}}, 1},
		{3, 0, []api.Tag{{}, {Num: 1}, {}}, 2},
		{1, -1, nil, 1},
		{1, -9, []api.Tag{{}}, 1},
		{1, -9, []api.Tag{{Num: 5, Node: 1}}, 6},
		{1, math.MinInt, nil, 1},
		{1, math.MinInt, []api.Tag{{Num: math.MinInt}}, 1},
		{1, -5, []api.Tag{{Num: -7}, {Num: -3}}, 1},
		{1, 6, []api.Tag{{Num: -7}, {Num: math.MinInt, Node: math.MaxInt}}, 7},
		{0, 1, []api.Tag{{Num: 3, Node: 5}, {Num: 9, Node: 0}, {Num: 8, Node: 5}}, 10},
		{0, 1, []api.Tag{{Num: 9, Node: 5}, {Num: 9, Node: 0}}, 10},
		{4, 0, []api.Tag{{Num: 2, Node: 99}, {Num: 1, Node: math.MinInt}}, 3},
		{4, 999999, nil, 1000000},
		{4, 0, []api.Tag{{Num: 999999, Node: 5}}, 1000000},
		{0, 999999, []api.Tag{{Num: 999999, Node: 5}, {Num: 999998, Node: 5}}, 1000000},
		{0, 999998, []api.Tag{{Num: 5}}, 999999},
	} {
		got, e := Next(c.node, c.last, c.seen...)
		if want := (api.Tag{Num: c.num, Node: c.node}); e != api.OK || got != want {
			t.Errorf("Next(%d, %d, %v) = %v, %d, want %v", c.node, c.last, c.seen, got, e, want)
		}
	}
}

// P6.2 Next: the numbers have come to their end.
func TestNextEnd(t *testing.T) {
	for _, far := range []int{1000000, 1000001, 1000002, 1 << 31, 1 << 32, 1<<62 + 1, math.MaxInt - 1, math.MaxInt} {
		for node := range 6 {
			for _, c := range []struct {
				last int
				seen []api.Tag
			}{
				{far, nil},
				{far, []api.Tag{{Num: 3, Node: node}}},
				{far, []api.Tag{{Num: -3}, {Num: math.MinInt}}},
				{far, []api.Tag{{Num: far}}},
				{0, []api.Tag{{Num: far}}},
				{-1, []api.Tag{{Num: far, Node: 5}}},
				{math.MinInt, []api.Tag{{Num: far, Node: -7}}},
				{7, []api.Tag{{Num: 6}, {Num: far}, {Num: 8}}},
				{999999, []api.Tag{{Num: far, Node: 2}, {Num: 999999, Node: 5}}},
			} {
				if got, e := Next(node, c.last, c.seen...); e != 61 || got != (api.Tag{}) {
					t.Errorf("Next(%d, %d, %v) = %v, %d", node, c.last, c.seen, got, e)
				}
			}
		}
	}
}

// P6.2 Next: what is no node has no tag, whether there are numbers or not.
func TestNextWrongNode(t *testing.T) {
	for _, node := range wrongNodes() {
		for _, last := range append(rightNums(), wrongNums()...) {
			for _, seen := range [][]api.Tag{nil, {{}}, {{Num: 7, Node: 5}}, {{Num: 1000000}}, {{Num: math.MaxInt, Node: node}}} {
				if got, e := Next(node, last, seen...); e != api.ErrTag || got != (api.Tag{}) {
					t.Errorf("Next(%d, %d, %v) = %v, %d", node, last, seen, got, e)
				}
			}
		}
	}
}

// P6.2 Next: every last number, of every node, with nothing seen, and seen with nothing last.
func TestNextEveryNum(t *testing.T) {
	for num := -1000; num <= 1001000; num++ {
		want, wantErr := api.Tag{Num: num + 1, Node: (num + 6000) % 6}, api.OK
		node := want.Node
		if num < 0 {
			want.Num = 1
		}
		if num >= 1000000 {
			want, wantErr = api.Tag{}, api.ErrTag
		}
		if got, e := Next(node, num); got != want || e != wantErr {
			t.Fatalf("Next(%d, %d) = %v, %d", node, num, got, e)
		}
		if got, e := Next(node, -1, api.Tag{Num: num, Node: 3}); got != want || e != wantErr {
			t.Fatalf("Next(%d, -1, %d of 3) = %v, %d", node, num, got, e)
		}
	}
}

// P6.2 and P6.3: whatever was seen, the next tag is right, goes behind it all, and leaves no number out.
func TestNextGoesBehind(t *testing.T) {
	r := rand.New(rand.NewSource(63))
	for range 20000 {
		seen, last, node := someTags(r, 6), r.Intn(12)-6, r.Intn(6)
		got, e := Next(node, last, seen...)
		if e != api.OK || !Right(got) || got.Node != node || got.Num <= last {
			t.Fatalf("Next(%d, %d, %v) = %v, %d", node, last, seen, got, e)
		}
		if slices.ContainsFunc(seen, func(t api.Tag) bool { return !Less(t, got) }) {
			t.Fatalf("Next(%d, %d, %v) = %v goes ahead of one", node, last, seen, got)
		}
		there := got.Num == 1 || last == got.Num-1 || slices.ContainsFunc(seen, func(t api.Tag) bool { return t.Num == got.Num-1 })
		if !there {
			t.Fatalf("Next(%d, %d, %v) = %v leaves numbers out", node, last, seen, got)
		}
	}
}

// P6.3: tags of unlike nodes are unlike, whatever each of them saw.
func TestNextUnlikeNodes(t *testing.T) {
	r := rand.New(rand.NewSource(64))
	for range 2000 {
		made := []api.Tag{}
		same := someTags(r, 4)
		for node := range 6 {
			seen := same
			if r.Intn(2) == 0 {
				seen = someTags(r, 4)
			}
			got, e := Next(node, 0, seen...)
			if e != api.OK || slices.Contains(made, got) {
				t.Fatalf("Next(%d, 0, %v) = %v, %d, behind %v", node, seen, got, e, made)
			}
			made = append(made, got)
		}
	}
}

// P6.3: a node that hands in what it made last makes ever newer ones, up to the last number there is.
func TestNextToTheEnd(t *testing.T) {
	newest, e := api.Tag{}, api.OK
	for num := 1; num <= 1000000; num++ {
		before := newest
		newest, e = Next(num%6, num-1, before)
		if e != api.OK || !Less(before, newest) || newest.Num != num || !Right(newest) {
			t.Fatalf("behind %v comes %v, %d", before, newest, e)
		}
	}
	if got, e := Next(5, 0, newest); e != api.ErrTag || got != (api.Tag{}) {
		t.Errorf("behind the last one comes %v, %d", got, e)
	}
}

// P1 and P2: all tags, right and wrong, come to an end, and twice to the same.
func TestEveryTagEnds(t *testing.T) {
	l := allTags()
	for _, a := range l {
		if Right(a) != Right(a) {
			t.Errorf("Right(%v) changed", a)
		}
		for _, b := range l {
			first, e := Next(a.Node, a.Num, b)
			second, again := Next(a.Node, a.Num, b)
			if first != second || e != again || Max(a, b) != Max(a, b) || Less(a, b) && Less(b, a) {
				t.Fatalf("answers of %v and %v changed", a, b)
			}
		}
	}
	if Max(l...) != (api.Tag{Num: math.MaxInt, Node: math.MaxInt}) {
		t.Error("the newest of all")
	}
}

// DOC.md, Rules: what is handed in stays as it is, spare room too.
func TestArgumentsStay(t *testing.T) {
	tags := []api.Tag{{Num: 7, Node: 1}, {Num: 9, Node: 5}, {}, {Num: -3}, {Num: 1000000, Node: 8}, {Num: 4, Node: 4}}
	were := slices.Clone(tags)
	for end := range len(tags) + 1 {
		Max(tags[:end]...)
		Next(3, 2, tags[:end]...)
		Next(6, 2, tags[:end]...)
	}
	if !slices.Equal(tags, were) {
		t.Errorf("tags became %v", tags)
	}
}
