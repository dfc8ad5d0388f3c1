package change

import (
	"math"
	"math/rand"
	"slices"
	"testing"

	"ropeway/api"
)

// oneChange is one node added, or one removed: tests hold lists of them against what the package answers.
type oneChange struct {
	node    int
	removed bool
}

// everyChange lists all changes that there are.
func everyChange() []oneChange {
	l := []oneChange{}
	for node := range 6 {
		l = append(l, oneChange{node, false}, oneChange{node, true})
	}
	return l
}

// has tells whether a change is in v, by counting how often its node's worth goes into the number.
func has(v api.View, c oneChange) bool {
	set := v.Add
	if c.removed {
		set = v.Del
	}
	worth := []int{1, 2, 4, 8, 16, 32}[c.node]
	return set/worth%2 == 1
}

// everySet lists all sets that are RIGHT, in the order of their NAMES.
func everySet() []api.View {
	l := []api.View{}
	for add := range 64 {
		for del := range 64 {
			l = append(l, api.View{Add: add, Del: del})
		}
	}
	return l
}

// someSets lists sets that are RIGHT: none, single changes, all of a kind, all, and some between.
func someSets() []api.View {
	l := []api.View{{}, {Add: 63}, {Del: 63}, {Add: 63, Del: 63}, {Add: 62, Del: 31}, {Add: 31, Del: 62},
		{Add: 21, Del: 42}, {Add: 42, Del: 21}, {Add: 5, Del: 2}, {Add: 7}, {Add: 34, Del: 1}, {Add: 39, Del: 1}}
	for k := range 6 {
		l = append(l, api.View{Add: 1 << k}, api.View{Del: 1 << k}, api.View{Add: 1 << k, Del: 1 << k},
			api.View{Add: 63 - 1<<k, Del: 63}, api.View{Add: 63, Del: 63 - 1<<k})
	}
	return l
}

// wrongParts lists numbers that are no set of nodes.
func wrongParts() []int {
	return []int{-1, -2, -63, -64, -65, 64, 65, 127, 128, 4095, 4096, 1 << 31, 1<<32 + 1, 1 << 62,
		math.MinInt, math.MinInt + 1, math.MinInt + 63, math.MaxInt, math.MaxInt - 1, -1 << 32}
}

// wrongNodes lists numbers that are no node.
func wrongNodes() []int {
	return []int{-1, -2, -5, -6, -64, 6, 7, 31, 32, 62, 63, 64, 65, 69, 128, 1 << 32, 1<<32 + 1, 1 << 62,
		math.MinInt, math.MinInt + 1, math.MinInt + 5, math.MaxInt, math.MaxInt - 1, -1 << 32}
}

// Types: RIGHT
func TestRight(t *testing.T) {
	for _, v := range everySet() {
		if !Right(v) {
			t.Errorf("%v isn't right", v)
		}
	}
	for _, wrong := range wrongParts() {
		for _, other := range []int{0, 1, 5, 62, 63} {
			for _, v := range []api.View{{Add: wrong, Del: other}, {Add: other, Del: wrong}} {
				if Right(v) {
					t.Errorf("%v is right", v)
				}
			}
		}
		for _, more := range wrongParts() {
			if v := (api.View{Add: wrong, Del: more}); Right(v) {
				t.Errorf("%v is right", v)
			}
		}
	}
}

// P4.1 Of: known ones, the chapter's example first.
func TestOfKnown(t *testing.T) {
	for _, c := range []struct {
		adds, dels []int
		want       api.View
	}{
		{[]int{0, 2}, []int{1}, api.View{Add: 5, Del: 2}},
		{nil, nil, api.View{}},
		{[]int{}, []int{}, api.View{}},
		{nil, []int{}, api.View{}},
		{[]int{0}, nil, api.View{Add: 1}},
		{nil, []int{0}, api.View{Del: 1}},
		{[]int{5}, nil, api.View{Add: 32}},
		{nil, []int{5}, api.View{Del: 32}},
		{[]int{3}, []int{3}, api.View{Add: 8, Del: 8}},
		{[]int{0, 1, 2, 3, 4, 5}, nil, api.View{Add: 63}},
		{[]int{5, 4, 3, 2, 1, 0}, []int{2, 0, 1, 5, 3, 4}, api.View{Add: 63, Del: 63}},
		{[]int{5, 5}, []int{0, 0, 0}, api.View{Add: 32, Del: 1}},
		{[]int{1, 5, 1, 5, 1}, []int{4, 0, 4}, api.View{Add: 34, Del: 17}},
	} {
		v, err := Of(c.adds, c.dels)
		if v != c.want || err != api.OK {
			t.Errorf("Of(%v, %v) = %v, %v, want %v", c.adds, c.dels, v, err, c.want)
		}
	}
}

// P4.1 Of: every set, its nodes falling and rising.
func TestOfEverySet(t *testing.T) {
	for _, v := range everySet() {
		adds, dels := []int{}, []int{}
		for _, c := range everyChange() {
			if has(v, c) && c.removed {
				dels = append(dels, c.node)
			} else if has(v, c) {
				adds = append(adds, c.node)
			}
		}
		slices.Reverse(dels)
		if got, err := Of(adds, dels); got != v || err != api.OK {
			t.Fatalf("Of(%v, %v) = %v, %v, want %v", adds, dels, got, err, v)
		}
	}
}

// P4.1 Of: a list of any length.
func TestOfLong(t *testing.T) {
	long := make([]int, 100000)
	for i := range long {
		long[i] = 1 + i%3
	}
	if v, err := Of(long, long[:2]); v != (api.View{Add: 14, Del: 6}) || err != api.OK {
		t.Errorf("a long list: %v, %v", v, err)
	}
	if v, err := Of(nil, append(long, 6)); v != (api.View{}) || err != api.ErrView {
		t.Errorf("a long list with a wrong end: %v, %v", v, err)
	}
}

// P4.1 Of, and the chapter's errors: what is no node, at every place of either list.
func TestOfWrong(t *testing.T) {
	if api.ErrView != 41 {
		t.Error(api.ErrView)
	}
	for _, wrong := range wrongNodes() {
		for _, bad := range [][]int{{wrong}, {wrong, 0}, {0, wrong}, {5, wrong, 0}, {wrong, wrong}} {
			for _, good := range [][]int{nil, {0}, {1, 5}} {
				if v, err := Of(bad, good); v != (api.View{}) || err != api.ErrView {
					t.Errorf("Of(%v, %v) = %v, %v", bad, good, v, err)
				}
				if v, err := Of(good, bad); v != (api.View{}) || err != api.ErrView {
					t.Errorf("Of(%v, %v) = %v, %v", good, bad, v, err)
				}
			}
			if v, err := Of(bad, bad); v != (api.View{}) || err != api.ErrView {
				t.Errorf("Of(%v, %v) = %v, %v", bad, bad, v, err)
			}
		}
	}
}

// P4.1 Join: of none, of one.
func TestJoinOfFew(t *testing.T) {
	for _, l := range [][]api.View{nil, {}, {{}}, {{}, {}}} {
		if v := Join(l...); v != (api.View{}) {
			t.Errorf("Join(%v) = %v", l, v)
		}
	}
	if v := Join(); v != (api.View{}) {
		t.Errorf("Join() = %v", v)
	}
	for _, v := range everySet() {
		for _, l := range [][]api.View{{v}, {v, v}, {{}, v}, {v, {}}, {{}, v, {}, v}} {
			if got := Join(l...); got != v {
				t.Fatalf("Join(%v) = %v", l, got)
			}
		}
	}
}

// P4.1 Join, Minus and Within: change by change, for all pairs of some sets.
func TestPairs(t *testing.T) {
	for _, a := range someSets() {
		for _, b := range everySet() {
			holdsPair(t, a, b)
			holdsPair(t, b, a)
		}
	}
}

// holdsPair asks of two sets what Join, Minus and Within are to answer.
func holdsPair(t *testing.T, a, b api.View) {
	t.Helper()
	join, minus, within := Join(a, b), Minus(a, b), true
	for _, c := range everyChange() {
		if has(join, c) != (has(a, c) || has(b, c)) {
			t.Fatalf("Join(%v, %v) = %v", a, b, join)
		}
		if has(minus, c) != (has(a, c) && !has(b, c)) {
			t.Fatalf("Minus(%v, %v) = %v", a, b, minus)
		}
		within = within && (!has(a, c) || has(b, c))
	}
	if !Right(join) || !Right(minus) {
		t.Fatalf("of %v and %v: %v, %v", a, b, join, minus)
	}
	if Within(a, b) != within {
		t.Fatalf("Within(%v, %v) = %v", a, b, !within)
	}
}

// P4.1 Join: of many, wherever the changes stand among them.
func TestJoinOfMany(t *testing.T) {
	r := rand.New(rand.NewSource(4))
	for range 2000 {
		l := make([]api.View, r.Intn(9))
		for i := range l {
			l[i] = api.View{Add: r.Intn(64) & r.Intn(64), Del: r.Intn(64) & r.Intn(64) & r.Intn(64)}
		}
		was := slices.Clone(l)
		join := Join(l...)
		for _, c := range everyChange() {
			want := slices.ContainsFunc(l, func(v api.View) bool { return has(v, c) })
			if has(join, c) != want {
				t.Fatalf("Join(%v) = %v", l, join)
			}
		}
		if !Right(join) || !slices.Equal(l, was) {
			t.Fatalf("Join(%v) = %v, of %v", l, join, was)
		}
	}
	single := []api.View{}
	for k := range 6 {
		single = append(single, api.View{Add: 1 << k}, api.View{Del: 1 << k})
	}
	if v := Join(single...); v != (api.View{Add: 63, Del: 63}) {
		t.Errorf("all changes joined: %v", v)
	}
	if v := Join(slices.Repeat(single[:6], 10000)...); v != (api.View{Add: 7, Del: 7}) {
		t.Errorf("60000 sets joined: %v", v)
	}
}

// P4.1 Minus: known ones; adding and removing one node are two changes.
func TestMinusKnown(t *testing.T) {
	for _, c := range []struct{ a, b, want api.View }{
		{api.View{}, api.View{}, api.View{}},
		{api.View{}, api.View{Add: 63, Del: 63}, api.View{}},
		{api.View{Add: 63, Del: 63}, api.View{}, api.View{Add: 63, Del: 63}},
		{api.View{Add: 63, Del: 63}, api.View{Add: 63, Del: 63}, api.View{}},
		{api.View{Add: 63, Del: 63}, api.View{Add: 1, Del: 32}, api.View{Add: 62, Del: 31}},
		{api.View{Add: 34, Del: 1}, api.View{Add: 7}, api.View{Add: 32, Del: 1}},
		{api.View{Add: 7}, api.View{Add: 34, Del: 1}, api.View{Add: 5}},
		{api.View{Add: 4}, api.View{Del: 4}, api.View{Add: 4}},
		{api.View{Del: 4}, api.View{Add: 4}, api.View{Del: 4}},
	} {
		if v := Minus(c.a, c.b); v != c.want {
			t.Errorf("Minus(%v, %v) = %v, want %v", c.a, c.b, v, c.want)
		}
	}
}

// P4.1 Within: known ones.
func TestWithinKnown(t *testing.T) {
	for _, c := range []struct {
		a, b api.View
		want bool
	}{
		{api.View{}, api.View{}, true},
		{api.View{}, api.View{Add: 1}, true},
		{api.View{Add: 1}, api.View{}, false},
		{api.View{Del: 1}, api.View{}, false},
		{api.View{Add: 5, Del: 2}, api.View{Add: 5, Del: 2}, true},
		{api.View{Add: 4, Del: 2}, api.View{Add: 5, Del: 2}, true},
		{api.View{Add: 5, Del: 2}, api.View{Add: 4, Del: 2}, false},
		{api.View{Add: 5, Del: 2}, api.View{Add: 63, Del: 61}, false},
		{api.View{Add: 5, Del: 2}, api.View{Add: 58, Del: 63}, false},
		{api.View{Add: 1}, api.View{Del: 1}, false},
		{api.View{Add: 1}, api.View{Add: 2}, false},
		{api.View{Add: 63, Del: 63}, api.View{Add: 63, Del: 63}, true},
		{api.View{Add: 63, Del: 63}, api.View{Add: 63, Del: 31}, false},
	} {
		if Within(c.a, c.b) != c.want {
			t.Errorf("Within(%v, %v) = %v", c.a, c.b, !c.want)
		}
	}
}

// P4.1 Size
func TestSize(t *testing.T) {
	for _, v := range everySet() {
		want := 0
		for _, c := range everyChange() {
			if has(v, c) {
				want++
			}
		}
		if size := Size(v); size != want {
			t.Errorf("Size(%v) = %d, want %d", v, size, want)
		}
	}
	for _, c := range []struct {
		v    api.View
		want int
	}{
		{api.View{}, 0},
		{api.View{Add: 5, Del: 2}, 3},
		{api.View{Add: 39, Del: 1}, 5},
		{api.View{Add: 8, Del: 8}, 2},
		{api.View{Add: 63}, 6},
		{api.View{Del: 63}, 6},
		{api.View{Add: 63, Del: 63}, 12},
	} {
		if size := Size(c.v); size != c.want {
			t.Errorf("Size(%v) = %d, want %d", c.v, size, c.want)
		}
	}
}

// P4.2 Name and Named: known ones.
func TestNameKnown(t *testing.T) {
	for _, c := range []struct {
		v    api.View
		name int
	}{
		{api.View{}, 0},
		{api.View{Del: 1}, 1},
		{api.View{Del: 63}, 63},
		{api.View{Add: 1}, 64},
		{api.View{Add: 1, Del: 1}, 65},
		{api.View{Add: 5, Del: 2}, 322},
		{api.View{Add: 63}, 4032},
		{api.View{Add: 63, Del: 62}, 4094},
		{api.View{Add: 63, Del: 63}, 4095},
	} {
		if name := Name(c.v); name != c.name {
			t.Errorf("Name(%v) = %d, want %d", c.v, name, c.name)
		}
		if v, err := Named(c.name); v != c.v || err != api.OK {
			t.Errorf("Named(%d) = %v, %v, want %v", c.name, v, err, c.v)
		}
	}
}

// P4.2 Name and Named: every set, and no NAME is of two.
func TestNameEverySet(t *testing.T) {
	for name, v := range everySet() {
		if got := Name(v); got != name {
			t.Errorf("Name(%v) = %d, want %d", v, got, name)
		}
		if got, err := Named(name); got != v || err != api.OK {
			t.Errorf("Named(%d) = %v, %v, want %v", name, got, err, v)
		}
	}
}

// P4.2 Named: numbers that are nobody's NAME.
func TestNamedOfNone(t *testing.T) {
	wrong := []int{-1, -2, -63, -64, -65, -322, -4095, -4096, 4096, 4097, 4159, 4160, 8191, 8192, 1 << 16,
		1 << 31, 1<<32 - 1, 1 << 32, 1<<32 + 322, -1 << 32, -1<<32 + 322, 1 << 62, 1<<62 + 5,
		math.MinInt, math.MinInt + 1, math.MinInt + 322, math.MaxInt, math.MaxInt - 1}
	for _, name := range wrong {
		if v, err := Named(name); v != (api.View{}) || err != api.ErrView {
			t.Errorf("Named(%d) = %v, %v", name, v, err)
		}
	}
}

// P1: sets that aren't RIGHT come to an end too.
func TestWrongSetsEnd(t *testing.T) {
	l := []api.View{{}, {Add: 63, Del: 63}}
	for _, wrong := range wrongParts() {
		l = append(l, api.View{Add: wrong}, api.View{Del: wrong}, api.View{Add: wrong, Del: wrong})
	}
	for _, a := range l {
		Size(a)
		Name(a)
		for _, b := range l {
			Join(a, b)
			Minus(a, b)
			Within(a, b)
		}
	}
	Join(l...)
}

// DOC.md, Rules: what is handed in stays as it is, spare room too.
func TestArgumentsStay(t *testing.T) {
	nodes := []int{3, 0, 3, 7, 7, 7}
	views := []api.View{{Add: 3}, {Del: 9}, {Add: -1, Del: -1}}
	nodesWere, viewsWere := slices.Clone(nodes), slices.Clone(views)
	Of(nodes[:3], nodes[1:3])
	Of(nodes[:4], nodes[3:4])
	Join(views[:2]...)
	Join(views[:0]...)
	if !slices.Equal(nodes, nodesWere) || !slices.Equal(views, viewsWere) {
		t.Errorf("arguments became %v, %v", nodes, views)
	}
}
