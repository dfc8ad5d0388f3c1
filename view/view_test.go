package view

import (
	"math"
	"math/rand"
	"slices"
	"testing"

	"ropeway/api"
	"ropeway/change"
)

// everyView lists all views that are RIGHT, in the order of their NAMES.
func everyView() []api.View {
	l := []api.View{}
	for add := range 64 {
		for del := range 64 {
			l = append(l, api.View{Add: add, Del: del})
		}
	}
	return l
}

// nodesIn lists the nodes of a set rising, by counting how often a node's worth goes into the number.
func nodesIn(set int) []int {
	l := []int{}
	for node, worth := range []int{1, 2, 4, 8, 16, 32} {
		if set/worth%2 == 1 {
			l = append(l, node)
		}
	}
	return l
}

// membersOf lists who is added and not removed.
func membersOf(v api.View) []int {
	gone := nodesIn(v.Del)
	return slices.DeleteFunc(nodesIn(v.Add), func(node int) bool { return slices.Contains(gone, node) })
}

// wrongParts lists numbers that are no set of nodes.
func wrongParts() []int {
	return []int{-1, -2, -63, -64, -65, 64, 65, 127, 128, 4095, 4096, 1 << 31, 1<<32 + 1, 1 << 62,
		math.MinInt, math.MinInt + 1, math.MinInt + 63, math.MaxInt, math.MaxInt - 1, -1 << 32}
}

// wrongNodes lists numbers that are no node.
func wrongNodes() []int {
	return []int{-1, -2, -5, -6, -58, -59, -63, -64, 6, 7, 31, 32, 62, 63, 64, 65, 69, 128, 256, 1 << 32,
		1<<32 + 1, 1 << 62, math.MinInt, math.MinInt + 1, math.MinInt + 5, math.MaxInt, math.MaxInt - 1, -1 << 32}
}

// wrongViews lists sets that aren't RIGHT, each of them with a part or two that is no set of nodes.
func wrongViews() []api.View {
	l := []api.View{}
	for _, wrong := range wrongParts() {
		l = append(l, api.View{Add: wrong}, api.View{Del: wrong}, api.View{Add: 63, Del: wrong}, api.View{Add: wrong, Del: 63})
		for _, more := range wrongParts() {
			l = append(l, api.View{Add: wrong, Del: more})
		}
	}
	return l
}

// P5.1 In and Members: known ones, the chapter's example first.
func TestMembersKnown(t *testing.T) {
	for _, c := range []struct {
		v    api.View
		want []int
	}{
		{api.View{Add: 7, Del: 2}, []int{0, 2}},
		{api.View{}, nil},
		{api.View{Del: 63}, nil},
		{api.View{Add: 63, Del: 63}, nil},
		{api.View{Add: 1, Del: 1}, nil},
		{api.View{Add: 21, Del: 63}, nil},
		{api.View{Add: 63}, []int{0, 1, 2, 3, 4, 5}},
		{api.View{Add: 1}, []int{0}},
		{api.View{Add: 32}, []int{5}},
		{api.View{Add: 33}, []int{0, 5}},
		{api.View{Add: 32, Del: 31}, []int{5}},
		{api.View{Add: 63, Del: 33}, []int{1, 2, 3, 4}},
		{api.View{Add: 5, Del: 2}, []int{0, 2}},
		{api.View{Add: 31, Del: 8}, []int{0, 1, 2, 4}},
	} {
		if got := Members(c.v); !slices.Equal(got, c.want) {
			t.Errorf("Members(%v) = %v, want %v", c.v, got, c.want)
		}
		for node := range 6 {
			if In(c.v, node) != slices.Contains(c.want, node) {
				t.Errorf("In(%v, %d) = %v", c.v, node, In(c.v, node))
			}
		}
	}
}

// P5.1 In and Members: every view.
func TestMembersEveryView(t *testing.T) {
	for _, v := range everyView() {
		want := membersOf(v)
		if got := Members(v); !slices.Equal(got, want) {
			t.Errorf("Members(%v) = %v, want %v", v, got, want)
		}
		for node := range 6 {
			if In(v, node) != slices.Contains(want, node) {
				t.Errorf("In(%v, %d) = %v", v, node, In(v, node))
			}
		}
	}
}

// P5.1 In: what is no node is no member of any view.
func TestInWrongNode(t *testing.T) {
	for _, v := range everyView() {
		for _, node := range wrongNodes() {
			if In(v, node) {
				t.Fatalf("In(%v, %d)", v, node)
			}
		}
	}
}

// P5.1: who is removed is out for ever, whatever else is changed behind it.
func TestRemovedStaysOut(t *testing.T) {
	for _, v := range everyView() {
		for node := range 6 {
			gone := change.Join(v, api.View{Del: 1 << node})
			again := change.Join(gone, api.View{Add: 1 << node})
			if In(gone, node) || In(again, node) {
				t.Fatalf("%d is in %v or %v", node, gone, again)
			}
		}
	}
}

// P5.1 Enough: known ones, just half and one more among them.
func TestEnoughKnown(t *testing.T) {
	two := api.View{Add: 7, Del: 2}
	four := api.View{Add: 31, Del: 8}
	for _, c := range []struct {
		v    api.View
		who  []int
		want bool
	}{
		{two, []int{0}, false},
		{two, []int{2}, false},
		{two, []int{0, 2}, true},
		{two, []int{2, 0}, true},
		{two, []int{0, 1}, false},
		{two, []int{0, 0, 0}, false},
		{two, []int{0, 1, 3, 4, 5}, false},
		{two, []int{5, 4, 3, 2, 1, 0}, true},
		{four, []int{0, 1}, false},
		{four, []int{0, 1, 1, 3, 5}, false},
		{four, []int{4, 0, 1}, true},
		{four, []int{4, 4, 0, 0, 3, 2}, true},
		{four, nil, false},
		{api.View{Add: 63}, []int{0, 1, 2}, false},
		{api.View{Add: 63}, []int{0, 2, 1, 5}, true},
		{api.View{Add: 63}, []int{5, 4, 3, 5, 4, 3}, false},
		{api.View{Add: 63}, []int{0, 1, 2, 3, 4, 5}, true},
		{api.View{Add: 7}, []int{1}, false},
		{api.View{Add: 7}, []int{1, 2}, true},
		{api.View{Add: 47}, []int{5, 0}, false},
		{api.View{Add: 47}, []int{5, 0, 3}, true},
		{api.View{Add: 32}, []int{5}, true},
		{api.View{Add: 32}, []int{0}, false},
		{api.View{Add: 32}, []int{}, false},
		{api.View{}, nil, false},
		{api.View{}, []int{0, 1, 2, 3, 4, 5}, false},
		{api.View{Add: 63, Del: 63}, []int{0, 1, 2, 3, 4, 5}, false},
		{api.View{Del: 1}, []int{0}, false},
	} {
		if Enough(c.v, c.who) != c.want {
			t.Errorf("Enough(%v, %v) = %v", c.v, c.who, !c.want)
		}
	}
}

// P5.1 Enough: every view, and every set of nodes; then some of them twice, and strangers among them.
func TestEnoughEveryView(t *testing.T) {
	strangers := wrongNodes()
	for _, v := range everyView() {
		members := membersOf(v)
		for set := range 64 {
			who, there := nodesIn(set), 0
			for _, node := range members {
				if slices.Contains(who, node) {
					there++
				}
			}
			want := there > len(members)-there
			if Enough(v, who) != want {
				t.Fatalf("Enough(%v, %v) = %v", v, who, !want)
			}
			more := slices.Concat(who, strangers, who)
			slices.Reverse(more)
			if Enough(v, more) != want {
				t.Fatalf("Enough(%v, %v) = %v", v, more, !want)
			}
		}
	}
}

// P5.1 Enough: what is no node counts nowhere, however many of them there are.
func TestEnoughWrongNodes(t *testing.T) {
	for _, node := range wrongNodes() {
		if Enough(api.View{Add: 63}, []int{node, node, node, node}) || Enough(api.View{}, []int{node}) {
			t.Errorf("%d is enough", node)
		}
		if Enough(api.View{Add: 7}, []int{0, node, node}) || !Enough(api.View{Add: 7}, []int{node, 0, node, 2}) {
			t.Errorf("%d counts beside members", node)
		}
	}
	long := slices.Repeat([]int{0, 6, 0, -1, 1}, 20000)
	if Enough(api.View{Add: 15}, long) || !Enough(api.View{Add: 15}, append(long, 3)) {
		t.Error("a long list")
	}
}

// P5.2 Less: known ones: by Size first, then by NAME.
func TestLessKnown(t *testing.T) {
	rising := []api.View{
		{},
		{Del: 1}, {Del: 2}, {Del: 32}, {Add: 1}, {Add: 2}, {Add: 32},
		{Del: 3}, {Del: 48}, {Add: 1, Del: 1}, {Add: 1, Del: 32}, {Add: 2, Del: 1}, {Add: 3}, {Add: 5}, {Add: 48},
		{Add: 1, Del: 3}, {Add: 5, Del: 2}, {Add: 7},
		{Del: 63}, {Add: 63},
		{Add: 1, Del: 63}, {Add: 63, Del: 1},
		{Add: 31, Del: 63}, {Add: 63, Del: 31}, {Add: 63, Del: 62},
		{Add: 63, Del: 63},
	}
	for i, a := range rising {
		for k, b := range rising {
			if Less(a, b) != (i < k) {
				t.Errorf("Less(%v, %v) = %v", a, b, i >= k)
			}
		}
	}
}

// P5.2 Less: all pairs.
func TestLessEveryPair(t *testing.T) {
	l := everyView()
	sizes := make([]int, len(l))
	for name, v := range l {
		sizes[name] = len(nodesIn(v.Add)) + len(nodesIn(v.Del))
	}
	for i, a := range l {
		for k, b := range l {
			want := sizes[i] < sizes[k] || sizes[i] == sizes[k] && i < k
			if Less(a, b) != want {
				t.Fatalf("Less(%v, %v) = %v", a, b, !want)
			}
		}
	}
}

// P5.2 Alike: known ones.
func TestAlikeKnown(t *testing.T) {
	for _, c := range []struct {
		l    []api.View
		want bool
	}{
		{nil, true},
		{[]api.View{}, true},
		{[]api.View{{}}, true},
		{[]api.View{{Add: 5, Del: 2}}, true},
		{[]api.View{{Add: 5, Del: 2}, {Add: 5, Del: 2}}, true},
		{[]api.View{{}, {Add: 63, Del: 63}}, true},
		{[]api.View{{Add: 63, Del: 63}, {}}, true},
		{[]api.View{{Add: 1}, {Del: 1}}, false},
		{[]api.View{{Add: 3}, {Add: 5}}, false},
		{[]api.View{{Add: 3}, {Add: 12, Del: 3}}, false},
		{[]api.View{{Add: 32}, {Add: 31, Del: 63}}, false},
		{[]api.View{{Add: 7, Del: 1}, {Add: 3}, {Add: 7}, {Add: 3}}, true},
		{[]api.View{{Add: 7, Del: 1}, {Add: 3}, {Add: 7}, {Add: 3}, {Add: 11}}, false},
		{[]api.View{{Add: 1}, {Add: 2}, {Add: 3}}, false},
		{[]api.View{{Add: 3}, {Add: 1}, {Add: 2}}, false},
		{[]api.View{{Add: 1}, {Add: 3}, {Add: 2}}, false},
		{[]api.View{{Add: 2}, {Add: 3}, {Add: 1}, {Add: 3}}, false},
		{[]api.View{{Add: 1}, {Add: 3}, {Add: 5}, {Add: 7}}, false},
		{[]api.View{{Add: 1, Del: 2}, {Add: 5, Del: 2}, {Del: 2}, {Add: 63, Del: 2}}, true},
		{[]api.View{{}, {}, {}, {Add: 4}, {}, {Add: 4}}, true},
	} {
		if Alike(c.l) != c.want {
			t.Errorf("Alike(%v) = %v", c.l, !c.want)
		}
	}
}

// alikeByPairs holds each two of l against each other.
func alikeByPairs(l []api.View) bool {
	for _, a := range l {
		for _, b := range l {
			if !change.Within(a, b) && !change.Within(b, a) {
				return false
			}
		}
	}
	return true
}

// P5.2 Alike: pairs of some views with every view, either way about.
func TestAlikePairs(t *testing.T) {
	for _, a := range []api.View{{}, {Add: 1}, {Del: 32}, {Add: 5, Del: 2}, {Add: 8, Del: 8}, {Add: 7}, {Add: 63},
		{Del: 63}, {Add: 31, Del: 62}, {Add: 63, Del: 31}, {Add: 63, Del: 63}} {
		for _, b := range everyView() {
			want := change.Within(a, b) || change.Within(b, a)
			if Alike([]api.View{a, b}) != want || Alike([]api.View{b, a}) != want {
				t.Fatalf("Alike(%v, %v) is not %v", a, b, want)
			}
		}
	}
}

// someChain answers views of which each holds the one ahead of it, in any order.
func someChain(r *rand.Rand, many int) []api.View {
	l := []api.View{{}}
	for range many {
		l = append(l, change.Join(l[len(l)-1], api.View{Add: 1 << r.Intn(6) & r.Intn(64), Del: 1 << r.Intn(6) & r.Intn(64)}))
	}
	r.Shuffle(len(l), func(i, k int) { l[i], l[k] = l[k], l[i] })
	return l
}

// P5.2 Alike: chains in any order, whole, and with a view more that may fit or not.
func TestAlikeChains(t *testing.T) {
	r := rand.New(rand.NewSource(5))
	fit := 0
	for range 5000 {
		l := someChain(r, r.Intn(10))
		if !Alike(l) {
			t.Fatalf("Alike(%v) = false", l)
		}
		l = slices.Insert(l, r.Intn(len(l)+1), api.View{Add: r.Intn(64) & r.Intn(64), Del: r.Intn(64) & r.Intn(64) & r.Intn(64)})
		want := alikeByPairs(l)
		if Alike(l) != want {
			t.Fatalf("Alike(%v) = %v", l, !want)
		}
		if want {
			fit++
		}
	}
	if fit < 100 || fit > 4900 {
		t.Errorf("%d of 5000 fit: these lists tell too little", fit)
	}
	long := slices.Repeat([]api.View{{Add: 7}, {Add: 3}, {Add: 7, Del: 1}}, 100000)
	if !Alike(long) || Alike(append(long, api.View{Add: 4})) {
		t.Error("a long list")
	}
}

// P5.2 Top: known ones.
func TestTopKnown(t *testing.T) {
	for _, c := range []struct {
		l    []api.View
		want api.View
	}{
		{nil, api.View{}},
		{[]api.View{}, api.View{}},
		{[]api.View{{}}, api.View{}},
		{[]api.View{{}, {}}, api.View{}},
		{[]api.View{{Del: 1}}, api.View{Del: 1}},
		{[]api.View{{Del: 1}, {}}, api.View{Del: 1}},
		{[]api.View{{Add: 3}, {Add: 3}}, api.View{Add: 3}},
		{[]api.View{{Add: 7, Del: 1}, {Add: 3}, {Add: 7}, {Add: 3}}, api.View{Add: 7, Del: 1}},
		{[]api.View{{Add: 3}, {Add: 5}}, api.View{Add: 5}},
		{[]api.View{{Add: 5}, {Add: 3}}, api.View{Add: 5}},
		{[]api.View{{Add: 32}, {Del: 3}}, api.View{Del: 3}},
		{[]api.View{{Add: 1}, {Del: 63}, {Add: 31}}, api.View{Del: 63}},
		{[]api.View{{Del: 63}, {Add: 63}, {Add: 1}}, api.View{Add: 63}},
		{[]api.View{{Add: 63, Del: 63}, {Add: 63}, {}}, api.View{Add: 63, Del: 63}},
	} {
		if got := Top(c.l); got != c.want {
			t.Errorf("Top(%v) = %v, want %v", c.l, got, c.want)
		}
	}
}

// P5.2 Top: of one, and of many: one of them, which goes ahead of none.
func TestTopOfMany(t *testing.T) {
	for _, v := range everyView() {
		if got := Top([]api.View{v}); got != v {
			t.Fatalf("Top(%v) = %v", v, got)
		}
	}
	r := rand.New(rand.NewSource(52))
	for range 3000 {
		l := make([]api.View, 1+r.Intn(9))
		for i := range l {
			l[i] = api.View{Add: r.Intn(64) & r.Intn(64), Del: r.Intn(64) & r.Intn(64) & r.Intn(64)}
		}
		top := Top(l)
		if !slices.Contains(l, top) || slices.ContainsFunc(l, func(v api.View) bool { return Less(top, v) }) {
			t.Fatalf("Top(%v) = %v", l, top)
		}
	}
	if got := Top(everyView()); got != (api.View{Add: 63, Del: 63}) {
		t.Errorf("the top of all is %v", got)
	}
}

// P5.3: in every view, any two sets of nodes that are enough; and all members are, if there are any.
func TestEnoughMeet(t *testing.T) {
	for _, v := range everyView() {
		members := 0
		for _, node := range Members(v) {
			members |= 1 << node
		}
		enough := []int{}
		for set := range 64 {
			if Enough(v, nodesIn(set)) {
				enough = append(enough, set)
			}
		}
		if members != 0 && !slices.Contains(enough, members) {
			t.Fatalf("all members of %v aren't enough", v)
		}
		for _, a := range enough {
			for _, b := range enough {
				if a&b&members == 0 {
					t.Fatalf("of %v, %v and %v are enough", v, nodesIn(a), nodesIn(b))
				}
			}
		}
	}
}

// P1 and P2: sets that aren't RIGHT come to an end too, and twice to the same.
func TestWrongViewsEnd(t *testing.T) {
	l := append(wrongViews(), api.View{}, api.View{Add: 63, Del: 63})
	nodes := append(wrongNodes(), 0, 1, 2, 3, 4, 5, 0)
	for _, a := range l {
		for _, node := range nodes {
			if In(a, node) != In(a, node) {
				t.Errorf("In(%v, %d) changed", a, node)
			}
		}
		if !slices.Equal(Members(a), Members(a)) || Enough(a, nodes) != Enough(a, nodes) || Enough(a, nil) != Enough(a, nil) {
			t.Errorf("answers of %v changed", a)
		}
		for _, b := range l {
			pair := []api.View{a, b}
			if Less(a, b) != Less(a, b) || Alike(pair) != Alike(pair) || Top(pair) != Top(pair) {
				t.Errorf("answers of %v and %v changed", a, b)
			}
		}
	}
	if Alike(l) != Alike(l) || Top(l) != Top(l) {
		t.Error("answers of all changed")
	}
}

// DOC.md, Rules: what is handed in stays as it is, spare room too.
func TestArgumentsStay(t *testing.T) {
	nodes := []int{3, 0, 3, 7, -1, 9}
	views := []api.View{{Add: 7, Del: 1}, {Add: 7}, {}, {Add: 3}, {Del: 9}, {Add: -1, Del: -1}}
	nodesWere, viewsWere := slices.Clone(nodes), slices.Clone(views)
	Enough(api.View{Add: 63}, nodes[:3])
	Enough(api.View{Add: 9}, nodes[1:4])
	Enough(api.View{}, nodes[:0])
	for end := range len(views) {
		Alike(views[:end])
		Top(views[:end])
	}
	if !slices.Equal(nodes, nodesWere) || !slices.Equal(views, viewsWere) {
		t.Errorf("arguments became %v, %v", nodes, views)
	}
}

// DOC.md, Rules: an answer is new memory, spare room too.
func TestMembersAreNew(t *testing.T) {
	for _, v := range []api.View{{}, {Add: 32}, {Add: 7, Del: 2}, {Add: 31}, {Add: 63}} {
		want := membersOf(v)
		first := Members(v)
		second := Members(v)
		first = first[:cap(first)]
		for i := range first {
			first[i] = -7
		}
		if !slices.Equal(second, want) || slices.Contains(second[:cap(second)], -7) || !slices.Equal(Members(v), want) {
			t.Errorf("Members(%v) are shared: %v", v, second)
		}
	}
}
