package fold

import (
	"fmt"
	"maps"
	"math"
	"math/bits"
	"math/rand"
	"slices"
	"testing"

	"ropeway/api"
)

// minusZero answers the zero below 0.
func minusZero() float64 { return math.Copysign(0, -1) }

// otherNaN answers what is not a number, by other bits than those of the language's own.
func otherNaN() float64 { return math.Float64frombits(0xFFF0000000000007) }

// bitsOf answers a value's bits, those of what is not a number in their one form.
func bitsOf(x float64) uint64 {
	if x != x {
		return 0x7FF8000000000001
	}
	return math.Float64bits(x)
}

// oddValues lists values, no two of them the same.
func oddValues() []float64 {
	return []float64{0, minusZero(), math.NaN(), math.Inf(1), math.Inf(-1), 1, -1, 0.1, math.MaxFloat64, math.SmallestNonzeroFloat64}
}

// farNumbers lists numbers that are no node, key, set, or count.
func farNumbers() []int {
	return []int{-1, 64, 65, 128, 255, 256, 1 << 31, 1 << 32, 1<<32 + 1, 1 << 57, 1 << 62, math.MaxInt, math.MaxInt - 1,
		-2, -63, -64, -65, -1 << 32, math.MinInt, math.MinInt + 1}
}

// everySet lists all sets of changes that are RIGHT, by rising NAMES.
func everySet() []api.View {
	var l []api.View
	for add := range 64 {
		for del := range 64 {
			l = append(l, api.View{Add: add, Del: del})
		}
	}
	return l
}

// nameOf answers the NAME of a set that is RIGHT.
func nameOf(v api.View) int { return v.Add*64 + v.Del }

// sizeOf answers how many changes a set has.
func sizeOf(v api.View) int { return bits.OnesCount(uint(v.Add)) + bits.OnesCount(uint(v.Del)) }

// holds tells whether all changes of the one set are in the other.
func holds(elder, later api.View) bool {
	return elder.Add&^later.Add == 0 && elder.Del&^later.Del == 0
}

// entry answers an entry in few words.
func entry(key, number, node int, x float64) api.Entry {
	return api.Entry{Key: key, Tag: api.Tag{Num: number, Node: node}, Value: x}
}

// cell answers a cell in few words.
func cell(node, add, del int) api.Cell {
	return api.Cell{Node: node, Change: api.View{Add: add, Del: del}}
}

// valueRec answers a record of an entry.
func valueRec(v api.View, e api.Entry) api.Rec {
	return api.Rec{Kind: api.RecValue, View: v, Entry: e}
}

// cellRec answers a record of a cell.
func cellRec(v api.View, c api.Cell) api.Rec {
	return api.Rec{Kind: api.RecCell, View: v, Cell: c}
}

// intentRec answers a record of what one means to write.
func intentRec(v api.View, add, del int) api.Rec {
	return api.Rec{Kind: api.RecIntent, View: v, Cell: cell(0, add, del)}
}

// markRec answers a record of a view that is held.
func markRec(v api.View) api.Rec { return api.Rec{Kind: api.RecMark, View: v} }

// tagRec answers a record of a tag's number.
func tagRec(n int) api.Rec { return api.Rec{Kind: api.RecTag, N: n} }

// bootRec answers a record of a start.
func bootRec(n int) api.Rec { return api.Rec{Kind: api.RecBoot, N: n} }

// alikeEntries tells whether two books are the same, reckoned without the package.
func alikeEntries(a, b []api.Entry) bool {
	return slices.EqualFunc(a, b, func(x, y api.Entry) bool {
		return x.Key == y.Key && x.Tag == y.Tag && bitsOf(x.Value) == bitsOf(y.Value)
	})
}

// alike tells whether all parts of two states are the same, reckoned without the package.
func alike(a, b api.State) bool {
	if len(a.Books) != len(b.Books) || len(a.Cells) != len(b.Cells) || len(a.Intents) != len(b.Intents) {
		return false
	}
	for i, x := range a.Books {
		if x.View != b.Books[i].View || !alikeEntries(x.Book, b.Books[i].Book) {
			return false
		}
	}
	for i, x := range a.Cells {
		if x.View != b.Cells[i].View || !slices.Equal(x.Cells, b.Cells[i].Cells) {
			return false
		}
	}
	return slices.Equal(a.Intents, b.Intents) && a.Held == b.Held && a.Inc == b.Inc && a.Last == b.Last
}

// changed answers what turn makes of a state, which stays.
func changed(s api.State, turn func(s *api.State)) api.State {
	s.Books, s.Cells, s.Intents = slices.Clone(s.Books), slices.Clone(s.Cells), slices.Clone(s.Intents)
	for i := range s.Books {
		s.Books[i].Book = slices.Clone(s.Books[i].Book)
	}
	for i := range s.Cells {
		s.Cells[i].Cells = slices.Clone(s.Cells[i].Cells)
	}
	turn(&s)
	return s
}

// kept answers a copy of a state, made without the package.
func kept(s api.State) api.State { return changed(s, func(*api.State) {}) }

// reckoning is what records lead to, reckoned in maps and without the package.
type reckoning struct {
	books     map[api.View]map[int]api.Entry
	wrote     map[api.View]map[int]api.View
	intents   map[api.View]api.View
	held      api.View
	inc, last int
}

// reckon answers a reckoning without records.
func reckon(first api.View) *reckoning {
	return &reckoning{map[api.View]map[int]api.Entry{}, map[api.View]map[int]api.View{}, map[api.View]api.View{}, first, 0, 0}
}

// newer tells whether the one tag is newer than the other.
func newer(a, b api.Tag) bool { return a.Num > b.Num || a.Num == b.Num && a.Node > b.Node }

// take reckons a record that is RIGHT.
func (k *reckoning) take(r api.Rec) {
	switch r.Kind {
	case 1:
		if k.books[r.View] == nil {
			k.books[r.View] = map[int]api.Entry{}
		}
		if old, ok := k.books[r.View][r.Entry.Key]; !ok || newer(r.Entry.Tag, old.Tag) {
			k.books[r.View][r.Entry.Key] = r.Entry
		}
	case 2:
		if k.wrote[r.View] == nil {
			k.wrote[r.View] = map[int]api.View{}
		}
		if _, ok := k.wrote[r.View][r.Cell.Node]; !ok {
			k.wrote[r.View][r.Cell.Node] = r.Cell.Change
		}
	case 3:
		if holds(k.held, r.View) {
			k.held = r.View
		}
	case 4:
		k.last = max(k.last, r.N)
	case 5:
		if _, ok := k.intents[r.View]; !ok {
			k.intents[r.View] = r.Cell.Change
		}
	case 6:
		k.inc = max(k.inc, r.N)
	}
}

// byName answers the views that are keys of a map, in the order of their NAMES.
func byName[T any](m map[api.View]T) []api.View {
	return slices.SortedFunc(maps.Keys(m), func(a, b api.View) int { return nameOf(a) - nameOf(b) })
}

// state answers the state that a reckoning has come to.
func (k *reckoning) state() api.State {
	s := api.State{Held: k.held, Inc: k.inc, Last: k.last}
	for _, v := range byName(k.books) {
		b := api.ViewBook{View: v}
		for _, key := range slices.Sorted(maps.Keys(k.books[v])) {
			b.Book = append(b.Book, k.books[v][key])
		}
		s.Books = append(s.Books, b)
	}
	for _, v := range byName(k.wrote) {
		c := api.ViewCells{View: v}
		for _, node := range slices.Sorted(maps.Keys(k.wrote[v])) {
			c.Cells = append(c.Cells, api.Cell{Node: node, Change: k.wrote[v][node]})
		}
		s.Cells = append(s.Cells, c)
	}
	for _, v := range byName(k.intents) {
		s.Intents = append(s.Intents, api.ViewIntent{View: v, Change: k.intents[v]})
	}
	return s
}

// seen answers the views that Seen should, of a reckoning.
func (k *reckoning) seen() []api.View {
	all := map[api.View]int{k.held: 1}
	for _, l := range [][]api.View{byName(k.books), byName(k.wrote), byName(k.intents)} {
		for _, v := range l {
			all[v] = 1
		}
	}
	l := byName(all)
	slices.SortStableFunc(l, func(a, b api.View) int { return sizeOf(a) - sizeOf(b) })
	return l
}

// reckoned answers what Of should.
func reckoned(first api.View, l []api.Rec) api.State {
	k := reckon(first)
	for _, r := range l {
		k.take(r)
	}
	return k.state()
}

// leads answers what Of does, if it is what records should lead to, and so does one Apply after the other.
func leads(t *testing.T, first api.View, l []api.Rec) api.State {
	t.Helper()
	want := reckoned(first, l)
	s := New(first)
	for _, r := range l {
		s = Apply(s, r)
	}
	if !alike(s, want) {
		t.Fatalf("one Apply after the other of %.600v leads to %.600v, and should to %.600v", fmt.Sprint(l), fmt.Sprint(s), fmt.Sprint(want))
	}
	got := Of(first, l)
	if !alike(got, want) {
		t.Fatalf("Of %v, %.600v = %.600v, and should be %.600v", first, fmt.Sprint(l), fmt.Sprint(got), fmt.Sprint(want))
	}
	if !Same(got, s) || !Same(s, got) {
		t.Fatalf("Of %v, %.600v isn't the Same as one Apply after the other", first, fmt.Sprint(l))
	}
	return got
}

// finds tells whether Book, Cells and Intent of a state that records lead to are of a view what they should be.
func finds(t *testing.T, s api.State, k *reckoning, v api.View) {
	t.Helper()
	var entries []api.Entry
	for _, key := range slices.Sorted(maps.Keys(k.books[v])) {
		entries = append(entries, k.books[v][key])
	}
	if got := Book(s, v); !alikeEntries(got, entries) {
		t.Fatalf("Book of %v = %v, and should be %v", v, got, entries)
	}
	var wrote []api.Cell
	for _, node := range slices.Sorted(maps.Keys(k.wrote[v])) {
		wrote = append(wrote, api.Cell{Node: node, Change: k.wrote[v][node]})
	}
	if got := Cells(s, v); !slices.Equal(got, wrote) {
		t.Fatalf("Cells of %v = %v, and should be %v", v, got, wrote)
	}
	want, has := k.intents[v]
	if got, ok := Intent(s, v); got != want || ok != has {
		t.Fatalf("Intent of %v = %v, %v, and should be %v, %v", v, got, ok, want, has)
	}
}

// someLog lists records of each kind, of a few views, so that nothing of the State they lead to is zero.
func someLog() []api.Rec {
	a, b, c := api.View{Add: 7}, api.View{Add: 7, Del: 1}, api.View{Add: 15}
	return []api.Rec{
		bootRec(1), valueRec(c, entry(1, 2, 0, math.NaN())), cellRec(a, cell(2, 8, 0)), valueRec(a, entry(0, 5, 1, 0.5)),
		valueRec(a, entry(3, 4, 5, minusZero())), intentRec(b, 0, 1), cellRec(a, cell(0, 0, 1)), tagRec(5), cellRec(c, cell(5, 16, 2)),
		markRec(c), intentRec(a, 8, 0), bootRec(2), valueRec(b, entry(2, 1, 0, 0)), cellRec(b, cell(3, 1, 1)), intentRec(c, 63, 63),
	}
}

// someState answers the state of someLog.
func someState() api.State { return reckoned(api.View{Add: 7}, someLog()) }

// someRec answers a record that is RIGHT, of one of a few views.
func someRec(r *rand.Rand, few []api.View) api.Rec {
	v := few[r.Intn(len(few))]
	switch r.Intn(9) {
	case 0, 1, 2:
		return valueRec(v, entry(r.Intn(4), 1+r.Intn(4), r.Intn(6), oddValues()[r.Intn(10)]))
	case 3, 4:
		return cellRec(v, cell(r.Intn(6), 1+r.Intn(63), r.Intn(64)))
	case 5:
		return markRec(v)
	case 6:
		return tagRec(1 + r.Intn(20))
	case 7:
		return intentRec(v, r.Intn(64), 1+r.Intn(63))
	}
	return bootRec(1 + r.Intn(20))
}

// someViews answers views of which some are within others.
func someViews(r *rand.Rand) []api.View {
	v := api.View{Add: 1 + r.Intn(7)}
	l := []api.View{v}
	for range r.Intn(9) {
		if r.Intn(2) == 0 {
			v.Add |= 1 << r.Intn(6)
		} else {
			v.Del |= 1 << r.Intn(6)
		}
		l = append(l, v, api.View{Add: v.Add, Del: r.Intn(64)}, api.View{Add: r.Intn(64), Del: v.Del}, api.View{Add: v.Del, Del: v.Add})
	}
	return l
}

// randomLog answers records that are RIGHT, of one of which views of some come.
func randomLog(r *rand.Rand) (first api.View, l []api.Rec) {
	few := someViews(r)
	for range r.Intn(60) {
		l = append(l, someRec(r, few))
	}
	return few[r.Intn(len(few))], l
}

// P12.1 New: nothing but Held, of every set of changes that is RIGHT.
func TestNewOfEverySet(t *testing.T) {
	for _, v := range everySet() {
		s := New(v)
		if len(s.Books) != 0 || len(s.Cells) != 0 || len(s.Intents) != 0 || s.Held != v || s.Inc != 0 || s.Last != 0 {
			t.Fatalf("New(%v) = %v", v, s)
		}
		for _, of := range []api.View{v, {}, {Add: v.Del, Del: v.Add}, {Add: 63, Del: 63}} {
			finds(t, s, reckon(v), of)
		}
		if seen := Seen(s); !slices.Equal(seen, []api.View{v}) {
			t.Fatalf("Seen of New(%v) = %v", v, seen)
		}
		if got := Of(v, nil); !alike(got, s) || !Same(got, s) {
			t.Fatalf("Of(%v, none) = %v", v, got)
		}
	}
}

// P12.1 Book, Cells, Intent: of a view that has one of these, and not the others, and of all views that have none.
func TestFindOneOfThree(t *testing.T) {
	for _, v := range []api.View{{}, {Add: 1}, {Del: 1}, {Add: 7, Del: 2}, {Add: 2, Del: 7}, {Add: 63, Del: 63}, {Add: 63}, {Del: 63}} {
		for _, r := range []api.Rec{valueRec(v, entry(2, 9, 3, 0.5)), cellRec(v, cell(3, 8, 1)), intentRec(v, 1, 8)} {
			k := reckon(api.View{Add: 7})
			k.take(r)
			s := leads(t, api.View{Add: 7}, []api.Rec{r})
			for _, of := range everySet() {
				finds(t, s, k, of)
			}
		}
	}
}

// P12.1 Book, Cells, Intent: of views whose Add, or Del, alone is another's.
func TestFindAddOrDelAlone(t *testing.T) {
	var l []api.Rec
	k := reckon(api.View{Add: 7})
	// Of each Add some Dels have something, of each Del some Adds, of each of the three others.
	for _, v := range everySet() {
		if (v.Add+v.Del)%3 == 0 {
			l = append(l, valueRec(v, entry(v.Add%4, 1+nameOf(v), v.Del%6, float64(nameOf(v)))))
		}
		if (v.Add*2+v.Del)%5 == 1 {
			l = append(l, cellRec(v, cell(v.Del%6, 1+v.Add%63, v.Del)))
		}
		if (v.Add+v.Del*3)%7 == 2 {
			l = append(l, intentRec(v, v.Del, 1+v.Add%63))
		}
	}
	for _, r := range l {
		k.take(r)
	}
	s := Of(api.View{Add: 7}, l)
	for _, v := range everySet() {
		finds(t, s, k, v)
	}
}

// P12.1 Book, Cells, Intent: all keys and all nodes of a view, and the intent of a view that adds and removes.
func TestFindAllOfAView(t *testing.T) {
	v, first := api.View{Add: 31, Del: 4}, api.View{Add: 7}
	var entries []api.Entry
	var wrote []api.Cell
	var l []api.Rec
	for key := range 4 {
		entries = append(entries, entry(key, 10-key, key+1, []float64{minusZero(), math.NaN(), 0, math.Inf(1)}[key]))
		l = append(l, valueRec(v, entries[key]))
	}
	for node := range 6 {
		wrote = append(wrote, cell(node, 32>>node, node+1))
		l = append(l, cellRec(v, wrote[node]))
	}
	l = append(l, intentRec(v, 32, 8))
	slices.Reverse(l)
	s := leads(t, first, l)
	if got := Book(s, v); !alikeEntries(got, entries) {
		t.Errorf("Book = %v", got)
	}
	if got := Cells(s, v); !slices.Equal(got, wrote) {
		t.Errorf("Cells = %v", got)
	}
	if got, ok := Intent(s, v); !ok || got != (api.View{Add: 32, Del: 8}) {
		t.Errorf("Intent = %v, %v", got, ok)
	}
	for _, of := range []api.View{{}, first, {Add: 31}, {Del: 4}, {Add: 31, Del: 5}, {Add: 30, Del: 4}, {Add: 4, Del: 31}, {Add: 63, Del: 63}} {
		if got, ok := Intent(s, of); ok || got != (api.View{}) || len(Book(s, of)) != 0 || len(Cells(s, of)) != 0 {
			t.Errorf("%v has %v, %v, %v, %v", of, Book(s, of), Cells(s, of), got, ok)
		}
	}
}

// everyOrder calls do with all orders of a list.
func everyOrder[T any](l []T, do func([]T)) {
	var grow func(ahead, rest []T)
	grow = func(ahead, rest []T) {
		if len(rest) == 0 {
			do(ahead)
			return
		}
		for i, x := range rest {
			grow(append(slices.Clone(ahead), x), slices.Delete(slices.Clone(rest), i, i+1))
		}
	}
	grow(nil, l)
}

// Types: each View stands once, in the order of the NAMES, in whatever order the records came.
func TestListsInOrder(t *testing.T) {
	// Neither Add alone, nor Del alone, nor the Size, nor the order of layer 5 is the order of the NAMES.
	views := []api.View{{Del: 63}, {Add: 1}, {Add: 1, Del: 2}, {Add: 3, Del: 1}, {Add: 8}}
	everyOrder(views, func(l []api.View) {
		var recs []api.Rec
		for _, v := range append(slices.Clone(l), l...) {
			recs = append(recs, valueRec(v, entry(1, 3, 3, 1)), cellRec(v, cell(4, 8, 8)), intentRec(v, 4, 4))
		}
		s := leads(t, api.View{Add: 1}, recs)
		if len(s.Books) != 5 || len(s.Cells) != 5 || len(s.Intents) != 5 {
			t.Fatalf("of five views come %v", s)
		}
		for i, v := range views {
			if s.Books[i].View != v || s.Cells[i].View != v || s.Intents[i].View != v {
				t.Fatalf("%d: %v, %v, %v instead of %v", i, s.Books[i], s.Cells[i], s.Intents[i], v)
			}
			if len(s.Books[i].Book) != 1 || len(s.Cells[i].Cells) != 1 {
				t.Fatalf("%d: %v, %v", i, s.Books[i], s.Cells[i])
			}
		}
	})
}

// Types: all views that there are, in some order.
func TestListsOfEverySet(t *testing.T) {
	all := everySet()
	r := rand.New(rand.NewSource(121))
	for _, kinds := range [][]int{{1}, {2}, {5}, {1, 2, 5}} {
		var l []api.Rec
		for _, at := range r.Perm(len(all)) {
			v := all[at]
			for _, kind := range kinds {
				switch kind {
				case 1:
					l = append(l, valueRec(v, entry(at%4, 1+at, at%6, float64(at))))
				case 2:
					l = append(l, cellRec(v, cell(at%6, 1+at%63, 63-at%64)))
				case 5:
					l = append(l, intentRec(v, v.Del, 1+v.Add%63))
				}
			}
		}
		s := Of(api.View{}, l)
		if !alike(s, reckoned(api.View{}, l)) {
			t.Fatalf("records of kinds %v of all views", kinds)
		}
		if seen := Seen(s); len(seen) != 4096 {
			t.Fatalf("Seen has %d views of all", len(seen))
		}
	}
}

// Types: no view stands there with an empty book, or with no cells: of whatever it has the one, or only an intent, or Held.
func TestNothingEmpty(t *testing.T) {
	r := rand.New(rand.NewSource(122))
	for range 2000 {
		first, l := randomLog(r)
		s := Of(first, l)
		for _, b := range s.Books {
			if len(b.Book) == 0 {
				t.Fatalf("%v has an empty book", b.View)
			}
		}
		for _, c := range s.Cells {
			if len(c.Cells) == 0 {
				t.Fatalf("%v has no cells", c.View)
			}
		}
	}
	v := api.View{Add: 9}
	for i, c := range []struct {
		rec                   api.Rec
		books, cells, intents int
	}{
		{valueRec(v, entry(0, 1, 0, 0)), 1, 0, 0}, {cellRec(v, cell(0, 1, 0)), 0, 1, 0}, {intentRec(v, 1, 0), 0, 0, 1},
		{markRec(v), 0, 0, 0}, {tagRec(1), 0, 0, 0}, {bootRec(1), 0, 0, 0},
	} {
		s := Apply(New(api.View{Add: 1}), c.rec)
		Book(s, v)
		Cells(s, v)
		Intent(s, v)
		Seen(s)
		if len(s.Books) != c.books || len(s.Cells) != c.cells || len(s.Intents) != c.intents {
			t.Errorf("%d: %v", i, s)
		}
	}
}

// same tells whether Same answers what it should, either of the two first.
func same(t *testing.T, a, b api.State, want bool) {
	t.Helper()
	if Same(a, b) != want || Same(b, a) != want {
		t.Errorf("Same(%.300v, %.300v) = %v, %v", fmt.Sprint(a), fmt.Sprint(b), Same(a, b), Same(b, a))
	}
}

// turns lists what makes of someState one that is unlike, in one part alone.
func turns() []func(s *api.State) {
	l := []func(s *api.State){
		func(s *api.State) { s.Held.Add ^= 32 }, func(s *api.State) { s.Held.Del ^= 32 }, func(s *api.State) { s.Held = api.View{} },
		func(s *api.State) { s.Inc++ }, func(s *api.State) { s.Inc = 0 }, func(s *api.State) { s.Inc += 1 << 32 },
		func(s *api.State) { s.Last++ }, func(s *api.State) { s.Last = 0 }, func(s *api.State) { s.Last += 1 << 32 },
		func(s *api.State) { s.Inc, s.Last = s.Last, s.Inc },
		func(s *api.State) { s.Books = nil }, func(s *api.State) { s.Cells = nil }, func(s *api.State) { s.Intents = nil },
		func(s *api.State) {
			s.Books = append(s.Books, api.ViewBook{View: api.View{Add: 63}, Book: s.Books[0].Book})
		},
		func(s *api.State) {
			s.Cells = append(s.Cells, api.ViewCells{View: api.View{Add: 63}, Cells: s.Cells[0].Cells})
		},
		func(s *api.State) {
			s.Intents = append(s.Intents, api.ViewIntent{View: api.View{Add: 63}, Change: api.View{Del: 1}})
		},
		func(s *api.State) { s.Books[0].Book = append(s.Books[0].Book, entry(3, 9, 1, 9))[1:] },
		func(s *api.State) { s.Cells[0].Cells = append(s.Cells[0].Cells, cell(5, 9, 1))[1:] },
	}
	for at := range 3 {
		l = append(l,
			func(s *api.State) { s.Books = slices.Delete(s.Books, at, at+1) },
			func(s *api.State) { s.Cells = slices.Delete(s.Cells, at, at+1) },
			func(s *api.State) { s.Intents = slices.Delete(s.Intents, at, at+1) },
			func(s *api.State) { s.Books[at].View.Add ^= 16 }, func(s *api.State) { s.Books[at].View.Del ^= 16 },
			func(s *api.State) { s.Cells[at].View.Add ^= 16 }, func(s *api.State) { s.Cells[at].View.Del ^= 16 },
			func(s *api.State) { s.Intents[at].View.Add ^= 16 }, func(s *api.State) { s.Intents[at].View.Del ^= 16 },
			func(s *api.State) { s.Intents[at].Change.Add ^= 1 }, func(s *api.State) { s.Intents[at].Change.Del ^= 2 },
			func(s *api.State) { s.Books[at].Book = append(s.Books[at].Book, entry(3, 9, 1, 9)) },
			func(s *api.State) { s.Cells[at].Cells = append(s.Cells[at].Cells, cell(5, 9, 1)) },
		)
	}
	s := someState()
	for at, b := range s.Books {
		for i := range b.Book {
			l = append(l,
				func(s *api.State) { s.Books[at].Book = slices.Delete(s.Books[at].Book, i, i+1) },
				func(s *api.State) { s.Books[at].Book[i].Key ^= 1 },
				func(s *api.State) { s.Books[at].Book[i].Tag.Num++ },
				func(s *api.State) { s.Books[at].Book[i].Tag.Node++ },
				func(s *api.State) { s.Books[at].Book[i].Value = 77 },
			)
		}
	}
	for at, c := range s.Cells {
		for i := range c.Cells {
			l = append(l,
				func(s *api.State) { s.Cells[at].Cells = slices.Delete(s.Cells[at].Cells, i, i+1) },
				func(s *api.State) { s.Cells[at].Cells[i].Node ^= 1 },
				func(s *api.State) { s.Cells[at].Cells[i].Change.Add ^= 32 },
				func(s *api.State) { s.Cells[at].Cells[i].Change.Del ^= 32 },
			)
		}
	}
	return l
}

// P12.1 Same: each part unlike alone is enough, and the same turn on both makes them the same again.
func TestSameUnlike(t *testing.T) {
	s := someState()
	if len(s.Books) != 3 || len(s.Cells) != 3 || len(s.Intents) != 3 || s.Inc != 2 || s.Last != 5 || len(s.Books[0].Book) != 2 || len(s.Cells[0].Cells) != 2 {
		t.Fatalf("someState is %v", s)
	}
	same(t, s, s, true)
	same(t, s, kept(s), true)
	same(t, Of(api.View{Add: 7}, someLog()), s, true)
	same(t, s, api.State{}, false)
	same(t, s, New(api.View{Add: 7}), false)
	same(t, New(api.View{Add: 7}), New(api.View{Add: 7}), true)
	same(t, New(api.View{Add: 7}), New(api.View{Add: 7, Del: 1}), false)
	for _, turn := range turns() {
		same(t, s, changed(s, turn), false)
		same(t, changed(s, turn), changed(s, turn), true)
	}
}

// P12.1 Same: the states that records lead to, each with each.
func TestSameInPairs(t *testing.T) {
	r := rand.New(rand.NewSource(123))
	l := []api.State{New(api.View{}), New(api.View{Add: 1}), someState()}
	for _, turn := range turns() {
		l = append(l, changed(someState(), turn))
	}
	for range 300 {
		first, log := randomLog(r)
		for _, cut := range []int{0, len(log) / 2, max(0, len(log)-1), len(log)} {
			l = append(l, Of(first, log[:cut]))
		}
	}
	for i, a := range l {
		for j, b := range l {
			if want := i == j || alike(a, b); Same(a, b) != want {
				t.Fatalf("Same(%v, %v) = %v", a, b, !want)
			}
		}
	}
}

// P12.1 Same: Values as layer 1 has them: both zeros are two, and what is not a number is one, in whatever form.
func TestSameValues(t *testing.T) {
	with := func(x float64) api.State {
		s := someState()
		s.Books[1].Book[0].Value = x
		return s
	}
	values := append(oddValues(), otherNaN(), math.Float64frombits(0x7FF0000000000001), math.Float64frombits(math.MaxUint64))
	for _, x := range values {
		for _, y := range values {
			same(t, with(x), with(y), bitsOf(x) == bitsOf(y))
			one := Apply(New(api.View{}), valueRec(api.View{Add: 1}, entry(0, 1, 0, x)))
			other := Apply(New(api.View{}), valueRec(api.View{Add: 1}, entry(0, 1, 0, y)))
			same(t, one, other, bitsOf(x) == bitsOf(y))
		}
	}
	same(t, with(0), with(minusZero()), false)
	same(t, with(math.NaN()), with(otherNaN()), true)
}

// P12.1 Same: a list that is nil and one that is empty are one.
func TestSameNoLists(t *testing.T) {
	for _, s := range []api.State{New(api.View{Add: 3}), Apply(New(api.View{Add: 3}), tagRec(4))} {
		for set := range 8 {
			empty := s
			if set&1 != 0 {
				empty.Books = []api.ViewBook{}
			}
			if set&2 != 0 {
				empty.Cells = make([]api.ViewCells, 0, 3)
			}
			if set&4 != 0 {
				empty.Intents = []api.ViewIntent{}
			}
			same(t, s, empty, true)
			same(t, empty, someState(), false)
			if c := Copy(empty); !alike(c, s) {
				t.Errorf("Copy(%v) = %v", empty, c)
			}
			for _, r := range someLog() {
				same(t, Apply(s, r), Apply(empty, r), true)
			}
			if seen := Seen(empty); !slices.Equal(seen, []api.View{{Add: 3}}) {
				t.Errorf("Seen(%v) = %v", empty, seen)
			}
		}
	}
}

// P12.1 Seen: known ones.
func TestSeenKnown(t *testing.T) {
	first := api.View{Add: 7}
	a, b, c := api.View{Add: 32}, api.View{Del: 3}, api.View{Add: 3, Del: 3}
	of := func(v api.View) (api.Rec, api.Rec, api.Rec) {
		return valueRec(v, entry(1, 1, 1, 1)), cellRec(v, cell(1, 1, 1)), intentRec(v, 1, 1)
	}
	aValue, aCell, aIntent := of(a)
	bValue, bCell, bIntent := of(b)
	cValue, cCell, cIntent := of(c)
	fValue, fCell, fIntent := of(first)
	for i, x := range []struct {
		l    []api.Rec
		want []api.View
	}{
		{nil, []api.View{first}},
		{[]api.Rec{tagRec(9), bootRec(9)}, []api.View{first}},
		{[]api.Rec{aValue}, []api.View{a, first}},
		{[]api.Rec{aCell}, []api.View{a, first}},
		{[]api.Rec{aIntent}, []api.View{a, first}},
		{[]api.Rec{cValue}, []api.View{first, c}},
		{[]api.Rec{cCell}, []api.View{first, c}},
		{[]api.Rec{cIntent}, []api.View{first, c}},
		{[]api.Rec{aIntent, aCell}, []api.View{a, first}},
		{[]api.Rec{aValue, aCell}, []api.View{a, first}},
		{[]api.Rec{aValue, aIntent}, []api.View{a, first}},
		{[]api.Rec{aValue, aCell, aIntent}, []api.View{a, first}},
		{[]api.Rec{fValue}, []api.View{first}},
		{[]api.Rec{fCell}, []api.View{first}},
		{[]api.Rec{fIntent}, []api.View{first}},
		{[]api.Rec{fValue, fCell, fIntent}, []api.View{first}},
		{[]api.Rec{cIntent, bCell, aValue}, []api.View{a, b, first, c}},
		{[]api.Rec{cCell, bValue, aIntent}, []api.View{a, b, first, c}},
		{[]api.Rec{aCell, bIntent, cValue}, []api.View{a, b, first, c}},
		{[]api.Rec{aValue, bValue, bCell, cCell, cIntent, aIntent}, []api.View{a, b, first, c}},
		{[]api.Rec{markRec(api.View{Add: 15})}, []api.View{{Add: 15}}},
		{[]api.Rec{markRec(a)}, []api.View{first}},
		{[]api.Rec{fValue, markRec(api.View{Add: 15}), cIntent}, []api.View{first, c, {Add: 15}}},
		{[]api.Rec{fIntent, aCell, markRec(api.View{Add: 63, Del: 1})}, []api.View{a, first, {Add: 63, Del: 1}}},
	} {
		if got := Seen(leads(t, first, x.l)); !slices.Equal(got, x.want) {
			t.Errorf("%d: Seen of %v = %v", i, x.l, got)
		}
	}
}

// P12.1 Seen: the order is that of layer 5, of all views that have a thing, in whatever order they came.
func TestSeenInOrder(t *testing.T) {
	r := rand.New(rand.NewSource(124))
	all := everySet()
	for range 300 {
		k := reckon(all[r.Intn(len(all))])
		s := New(k.held)
		for range 1 + r.Intn(80) {
			rec := someRec(r, all)
			k.take(rec)
			s = Apply(s, rec)
		}
		if got := Seen(s); !slices.Equal(got, k.seen()) {
			t.Fatalf("Seen(%v) = %v", s, got)
		}
	}
	for range 2000 {
		first, l := randomLog(r)
		k := reckon(first)
		for _, rec := range l {
			k.take(rec)
		}
		if got := Seen(Of(first, l)); !slices.Equal(got, k.seen()) {
			t.Fatalf("Seen of %v = %v", l, got)
		}
	}
}

// P12.2, the chapter's example: RecTag 5, RecTag 3: Last 5.
func TestExample(t *testing.T) {
	s := leads(t, api.View{Add: 7}, []api.Rec{tagRec(5), tagRec(3)})
	if s.Last != 5 || s.Inc != 0 {
		t.Errorf("Last %d, Inc %d", s.Last, s.Inc)
	}
}

// behind answers what Apply of a record makes of a state, if nothing but what turn does to the state has changed.
func behind(t *testing.T, s api.State, r api.Rec, turn func(s *api.State)) api.State {
	t.Helper()
	was, want := kept(s), changed(s, turn)
	got := Apply(s, r)
	if !alike(got, want) {
		t.Fatalf("Apply(%v, %v) = %v, and should be %v", s, r, got, want)
	}
	if !alike(s, was) {
		t.Fatalf("Apply(%v, %v) has changed what was handed in to %v", was, r, s)
	}
	if !Same(got, want) || Same(got, was) != alike(want, was) {
		t.Fatalf("Same of what Apply(%v, %v) answers", s, r)
	}
	return got
}

// gap is a view of which someState has nothing, and the place of what it gets among the other three.
type gap struct {
	view api.View
	at   int
}

// gaps lists some, ahead of the three views of someState, between them, and behind.
func gaps() []gap {
	return []gap{{api.View{}, 0}, {api.View{Del: 1}, 0}, {api.View{Add: 6, Del: 63}, 0}, {api.View{Add: 7, Del: 2}, 2}, {api.View{Add: 14, Del: 63}, 2},
		{api.View{Add: 15, Del: 1}, 3}, {api.View{Add: 63, Del: 63}, 3}}
}

// stays is a turn that changes nothing.
func stays(*api.State) {}

// P12.2 Apply of a RecValue: an Entry that is newer, older and the same, of a Key that is there and of one that isn't.
func TestApplyValue(t *testing.T) {
	v := api.View{Add: 7}
	s := someState()
	there := entry(0, 5, 1, 0.5)
	if s.Books[0].View != v || !alikeEntries(s.Books[0].Book, []api.Entry{there, entry(3, 4, 5, minusZero())}) {
		t.Fatalf("someState is %v", s)
	}
	for _, x := range append(oddValues(), otherNaN()) {
		for _, tag := range []api.Tag{{Num: 6}, {Num: 6, Node: 5}, {Num: 5, Node: 2}, {Num: 5, Node: 5}, {Num: 1000000, Node: 0}} {
			e := api.Entry{Key: 0, Tag: tag, Value: x}
			behind(t, s, valueRec(v, e), func(s *api.State) { s.Books[0].Book[0] = e })
		}
		for _, tag := range []api.Tag{{Num: 5, Node: 1}, {Num: 5}, {Num: 4, Node: 5}, {Num: 1}, {Num: 1, Node: 5}} {
			behind(t, s, valueRec(v, api.Entry{Key: 0, Tag: tag, Value: x}), stays)
		}
		for _, e := range []api.Entry{entry(1, 1, 0, x), entry(1, 1000000, 5, x), entry(2, 5, 1, x)} {
			behind(t, s, valueRec(v, e), func(s *api.State) { s.Books[0].Book = slices.Insert(s.Books[0].Book, 1, e) })
		}
		e := entry(0, 2, 3, x)
		for _, g := range gaps() {
			behind(t, s, valueRec(g.view, e), func(s *api.State) {
				s.Books = slices.Insert(s.Books, g.at, api.ViewBook{View: g.view, Book: []api.Entry{e}})
			})
		}
	}
}

// P12.2 Apply of a RecValue: all pairs of some tags, of one key and of two.
func TestApplyValueInPairs(t *testing.T) {
	v := api.View{Add: 3, Del: 1}
	var tags []api.Tag
	for _, n := range []int{1, 2, 3, 999999, 1000000} {
		for _, node := range []int{0, 1, 5} {
			tags = append(tags, api.Tag{Num: n, Node: node})
		}
	}
	for _, x := range tags {
		for _, y := range tags {
			for key := range 4 {
				for other := range 4 {
					one, two := api.Entry{Key: key, Tag: x, Value: 1}, api.Entry{Key: other, Tag: y, Value: 2}
					s := leads(t, api.View{Add: 3}, []api.Rec{valueRec(v, one), valueRec(v, two)})
					if len(s.Books) != 1 || key == other && len(s.Books[0].Book) != 1 || key != other && len(s.Books[0].Book) != 2 {
						t.Fatalf("of %v and %v comes %v", one, two, s.Books)
					}
				}
			}
		}
	}
}

// P12.2 Apply of a RecCell: a Node that wrote already, and one that didn't.
func TestApplyCell(t *testing.T) {
	v := api.View{Add: 7}
	s := someState()
	if s.Cells[0].View != v || !slices.Equal(s.Cells[0].Cells, []api.Cell{cell(0, 0, 1), cell(2, 8, 0)}) {
		t.Fatalf("someState is %v", s)
	}
	for _, w := range everySet()[1:] {
		for _, node := range []int{0, 2} {
			behind(t, s, cellRec(v, api.Cell{Node: node, Change: w}), stays)
		}
		for _, x := range []struct{ node, at int }{{1, 1}, {3, 2}, {4, 2}, {5, 2}} {
			c := api.Cell{Node: x.node, Change: w}
			behind(t, s, cellRec(v, c), func(s *api.State) { s.Cells[0].Cells = slices.Insert(s.Cells[0].Cells, x.at, c) })
		}
		c := api.Cell{Node: 2, Change: w}
		for _, g := range gaps() {
			behind(t, s, cellRec(g.view, c), func(s *api.State) {
				s.Cells = slices.Insert(s.Cells, g.at, api.ViewCells{View: g.view, Cells: []api.Cell{c}})
			})
		}
	}
}

// P12.2 Apply of a RecMark: every fourth view is Held, and every one marked: so one that holds Held, the same, less, and neither.
func TestApplyMark(t *testing.T) {
	for i, held := range everySet() {
		if i%4 != i/64%4 {
			continue
		}
		s := New(held)
		for _, v := range everySet() {
			got := Apply(s, markRec(v))
			want := held
			if v.Add|held.Add == v.Add && v.Del|held.Del == v.Del {
				want = v
			}
			if got.Held != want || s.Held != held {
				t.Fatalf("%v is marked where %v is held: %v", v, held, got.Held)
			}
		}
	}
	s := someState()
	s.Held = api.View{Add: 7, Del: 1}
	for _, v := range []api.View{{Add: 15, Del: 1}, {Add: 7, Del: 3}, {Add: 63, Del: 63}} {
		behind(t, s, markRec(v), func(s *api.State) { s.Held = v })
	}
	for _, v := range []api.View{{Add: 7, Del: 1}, {Add: 7}, {Add: 3, Del: 1}, {Del: 1}, {}, {Add: 63}, {Add: 56, Del: 62}, {Add: 1, Del: 7}, {Add: 15, Del: 2}} {
		behind(t, s, markRec(v), stays)
	}
}

// P12.2 Apply of a RecTag and of a RecBoot: an N that is less, the same and greater.
func TestApplyNumbers(t *testing.T) {
	for _, was := range []int{0, 1, 2, 5, 300, 999999, 1000000} {
		for _, n := range []int{1, 2, 3, 4, 5, 6, 299, 300, 301, 999999, 1000000} {
			s := someState()
			// The other number is less than n, or greater: it stays.
			for _, other := range []int{0, 2, 1000000} {
				s.Inc, s.Last = other, was
				behind(t, s, tagRec(n), func(s *api.State) { s.Last = max(was, n) })
				s.Inc, s.Last = was, other
				behind(t, s, bootRec(n), func(s *api.State) { s.Inc = max(was, n) })
			}
		}
	}
}

// P12.2 Apply of a RecIntent: where there is one already, and where there is none.
func TestApplyIntent(t *testing.T) {
	s := someState()
	if !slices.Equal(s.Intents, []api.ViewIntent{{View: api.View{Add: 7}, Change: api.View{Add: 8}}, {View: api.View{Add: 7, Del: 1}, Change: api.View{Del: 1}}, {View: api.View{Add: 15}, Change: api.View{Add: 63, Del: 63}}}) {
		t.Fatalf("someState is %v", s)
	}
	for _, w := range everySet()[1:] {
		for _, v := range []api.View{{Add: 7}, {Add: 7, Del: 1}, {Add: 15}} {
			behind(t, s, intentRec(v, w.Add, w.Del), stays)
		}
		for _, g := range gaps() {
			behind(t, s, intentRec(g.view, w.Add, w.Del), func(s *api.State) {
				s.Intents = slices.Insert(s.Intents, g.at, api.ViewIntent{View: g.view, Change: w})
			})
		}
	}
}

// P12.2 Apply: every record of every view has its effect, and no other.
func TestApplyEveryView(t *testing.T) {
	s := someState()
	var l []api.Rec
	for _, v := range everySet() {
		l = append(l, valueRec(v, entry(1, 7, 2, 3)), cellRec(v, cell(4, 2, 1)), intentRec(v, 4, 2), markRec(v))
	}
	for _, r := range append(l, tagRec(1), tagRec(9), bootRec(1), bootRec(9)) {
		if got, want := Apply(s, r), reckoned(api.View{Add: 7}, append(someLog(), r)); !alike(got, want) {
			t.Fatalf("Apply of %v = %v, and should be %v", r, got, want)
		}
	}
}

// P12.2 Of: no record, one of each Kind, many.
func TestOfKnown(t *testing.T) {
	first := api.View{Add: 7}
	leads(t, first, nil)
	leads(t, first, []api.Rec{})
	for _, r := range someLog() {
		leads(t, first, []api.Rec{r})
		leads(t, api.View{}, []api.Rec{r})
		leads(t, first, []api.Rec{r, r})
	}
	want := api.State{
		Books: []api.ViewBook{
			{View: api.View{Add: 7}, Book: []api.Entry{entry(0, 5, 1, 0.5), entry(3, 4, 5, minusZero())}},
			{View: api.View{Add: 7, Del: 1}, Book: []api.Entry{entry(2, 1, 0, 0)}},
			{View: api.View{Add: 15}, Book: []api.Entry{entry(1, 2, 0, otherNaN())}},
		},
		Cells: []api.ViewCells{
			{View: api.View{Add: 7}, Cells: []api.Cell{cell(0, 0, 1), cell(2, 8, 0)}},
			{View: api.View{Add: 7, Del: 1}, Cells: []api.Cell{cell(3, 1, 1)}},
			{View: api.View{Add: 15}, Cells: []api.Cell{cell(5, 16, 2)}},
		},
		Intents: []api.ViewIntent{
			{View: api.View{Add: 7}, Change: api.View{Add: 8}},
			{View: api.View{Add: 7, Del: 1}, Change: api.View{Del: 1}},
			{View: api.View{Add: 15}, Change: api.View{Add: 63, Del: 63}},
		},
		Held: api.View{Add: 15}, Inc: 2, Last: 5,
	}
	if s := leads(t, first, someLog()); !alike(s, want) || !Same(s, want) {
		t.Errorf("someLog leads to %v", s)
	}
}

// P12.2 Of: the same records twice lead to what they lead to once, together or one by one.
func TestOfTwice(t *testing.T) {
	r := rand.New(rand.NewSource(125))
	for range 1000 {
		first, l := randomLog(r)
		once := leads(t, first, l)
		var doubled []api.Rec
		for _, rec := range l {
			doubled = append(doubled, rec, rec)
		}
		if s := leads(t, first, doubled); !Same(s, once) {
			t.Fatalf("each record of %v twice: %v", l, s)
		}
		// A mark may be held only once there is more: so not of marks.
		unmarked := slices.DeleteFunc(slices.Clone(l), func(r api.Rec) bool { return r.Kind == api.RecMark })
		if s := leads(t, first, append(slices.Clone(l), unmarked...)); !Same(s, once) {
			t.Fatalf("%v, twice: %v", l, s)
		}
		leads(t, first, append(slices.Clone(l), l...))
	}
}

// P12.2 Of: another order leads to another state where what comes first stays, and to the same where it doesn't matter.
func TestOfOtherOrder(t *testing.T) {
	first, v := api.View{Add: 1}, api.View{Add: 3}
	free := []api.Rec{valueRec(v, entry(1, 2, 0, 1)), valueRec(v, entry(1, 2, 1, 2)), valueRec(v, entry(1, 1, 5, 3)), tagRec(4), tagRec(2), bootRec(3)}
	once := leads(t, first, free)
	everyOrder(free, func(l []api.Rec) {
		if s := Of(first, l); !alike(s, once) {
			t.Fatalf("%v leads to %v", l, s)
		}
	})
	for _, x := range []struct{ one, other api.Rec }{
		{valueRec(v, entry(1, 2, 0, 1)), valueRec(v, entry(1, 2, 0, 2))},
		{cellRec(v, cell(1, 4, 0)), cellRec(v, cell(1, 8, 0))},
		{intentRec(v, 4, 0), intentRec(v, 8, 0)},
		{markRec(v), markRec(api.View{Add: 5})},
	} {
		a, b := leads(t, first, []api.Rec{x.one, x.other}), leads(t, first, []api.Rec{x.other, x.one})
		if !alike(a, Of(first, []api.Rec{x.one})) || !alike(b, Of(first, []api.Rec{x.other})) || Same(a, b) {
			t.Errorf("%v and %v lead to %v, or %v", x.one, x.other, a, b)
		}
	}
	a := leads(t, first, []api.Rec{markRec(api.View{Add: 7}), markRec(v)})
	b := leads(t, first, []api.Rec{markRec(v), markRec(api.View{Add: 7})})
	if a.Held != (api.View{Add: 7}) || !alike(a, b) {
		t.Errorf("Held %v and %v", a.Held, b.Held)
	}
	everyOrder(someLog()[:7], func(l []api.Rec) {
		if s := Of(api.View{Add: 7}, l); !alike(s, reckoned(api.View{Add: 7}, l)) {
			t.Fatalf("%v leads to %v", l, s)
		}
	})
}

// P12.2 Of: random logs.
func TestOfRandom(t *testing.T) {
	r := rand.New(rand.NewSource(126))
	for range 3000 {
		first, l := randomLog(r)
		s := leads(t, first, l)
		k := reckon(first)
		for _, rec := range l {
			k.take(rec)
		}
		for _, v := range append(Seen(s), someViews(r)...) {
			finds(t, s, k, v)
		}
	}
}

// P12.2 Of: a log longer than any disk has room for, of all views that there are, comes to an end soon.
func TestOfLong(t *testing.T) {
	r := rand.New(rand.NewSource(127))
	all := everySet()
	var l []api.Rec
	for range 300000 {
		l = append(l, someRec(r, all))
	}
	if s := Of(api.View{}, l); !alike(s, reckoned(api.View{}, l)) {
		t.Error("a long log leads elsewhere")
	}
}

// notLess tells whether nothing in the later state is less than in the elder one.
func notLess(elder, later api.State) bool {
	for _, b := range elder.Books {
		at := slices.IndexFunc(later.Books, func(x api.ViewBook) bool { return x.View == b.View })
		if at < 0 {
			return false
		}
		for _, e := range b.Book {
			if !slices.ContainsFunc(later.Books[at].Book, func(x api.Entry) bool {
				return x.Key == e.Key && (newer(x.Tag, e.Tag) || alikeEntries([]api.Entry{x}, []api.Entry{e}))
			}) {
				return false
			}
		}
	}
	for _, c := range elder.Cells {
		at := slices.IndexFunc(later.Cells, func(x api.ViewCells) bool { return x.View == c.View })
		if at < 0 {
			return false
		}
		for _, x := range c.Cells {
			if !slices.Contains(later.Cells[at].Cells, x) {
				return false
			}
		}
	}
	for _, i := range elder.Intents {
		if !slices.Contains(later.Intents, i) {
			return false
		}
	}
	return holds(elder.Held, later.Held) && elder.Inc <= later.Inc && elder.Last <= later.Last
}

// P12.3: of logs that are a beginning of one another the longer one's state is nowhere less.
func TestNothingLess(t *testing.T) {
	r := rand.New(rand.NewSource(128))
	for range 2000 {
		first, l := randomLog(r)
		states := []api.State{New(first)}
		for cut := range l {
			states = append(states, Of(first, l[:cut+1]))
		}
		for i, elder := range states {
			// The next one, the last one, and some between.
			for _, later := range []api.State{states[min(i+1, len(l))], states[len(l)], states[i+r.Intn(len(states)-i)]} {
				if !notLess(elder, later) {
					t.Fatalf("%v leads from %v to %v", l, elder, later)
				}
			}
		}
	}
}

// P12.3: whatever the record is that comes behind, of each Kind, of someLog's views and of others.
func TestNothingLessBehindOne(t *testing.T) {
	elder := Of(api.View{Add: 7}, someLog())
	var l []api.Rec
	for _, v := range []api.View{{}, {Add: 7}, {Add: 7, Del: 1}, {Add: 15}, {Add: 15, Del: 1}, {Add: 1}, {Del: 1}, {Add: 63, Del: 63}} {
		for key := range 4 {
			for number := range 7 {
				for node := range 6 {
					l = append(l, valueRec(v, entry(key, 1+number, node, 8)))
				}
			}
		}
		for node := range 6 {
			l = append(l, cellRec(v, cell(node, 32, 32)), cellRec(v, cell(node, 0, 1)), cellRec(v, cell(node, 63, 63)))
		}
		l = append(l, intentRec(v, 32, 32), intentRec(v, 0, 1), intentRec(v, 63, 63))
	}
	for _, v := range everySet() {
		l = append(l, markRec(v))
	}
	for n := range 10 {
		l = append(l, tagRec(1+n), bootRec(1+n))
	}
	for _, r := range l {
		later := Of(api.View{Add: 7}, append(someLog(), r))
		if !notLess(elder, later) || !notLess(elder, Apply(elder, r)) {
			t.Fatalf("%v leads from %v to %v", r, elder, later)
		}
	}
}

// roomy answers a copy of a list with spare room, which is filled.
func roomy[T any](l []T, fill T) []T {
	all := append(append(make([]T, 0, len(l)+3), l...), fill, fill, fill)
	return all[:len(l)]
}

// roomyState answers a copy of a state whose lists have spare room, which is filled.
func roomyState(s api.State) api.State {
	s.Books = roomy(s.Books, api.ViewBook{View: api.View{Add: 9, Del: 9}})
	for i, b := range s.Books {
		s.Books[i].Book = roomy(b.Book, entry(9, 9, 9, 9))
	}
	s.Cells = roomy(s.Cells, api.ViewCells{View: api.View{Add: 9, Del: 9}})
	for i, c := range s.Cells {
		s.Cells[i].Cells = roomy(c.Cells, cell(9, 9, 9))
	}
	s.Intents = roomy(s.Intents, api.ViewIntent{View: api.View{Add: 9, Del: 9}})
	return s
}

// withRoom answers a copy of a state in which each list ends where its spare room does.
func withRoom(s api.State) api.State {
	return changed(s, func(c *api.State) {
		c.Books = slices.Clone(s.Books[:cap(s.Books)])
		for i, b := range c.Books {
			c.Books[i].Book = slices.Clone(b.Book[:cap(b.Book)])
		}
		c.Cells = slices.Clone(s.Cells[:cap(s.Cells)])
		for i, b := range c.Cells {
			c.Cells[i].Cells = slices.Clone(b.Cells[:cap(b.Cells)])
		}
		c.Intents = slices.Clone(s.Intents[:cap(s.Intents)])
	})
}

// spoil writes over all of a list, spare room included.
func spoil[T any](l []T, fill T) {
	for i := range l[:cap(l)] {
		l[:cap(l)][i] = fill
	}
}

// spoilState writes over all lists of a state, spare room included.
func spoilState(s api.State) {
	for _, b := range s.Books[:cap(s.Books)] {
		spoil(b.Book, entry(8, 8, 8, 8))
	}
	for _, c := range s.Cells[:cap(s.Cells)] {
		spoil(c.Cells, cell(8, 8, 8))
	}
	spoil(s.Books, api.ViewBook{View: api.View{Add: 8, Del: 8}})
	spoil(s.Cells, api.ViewCells{View: api.View{Add: 8, Del: 8}})
	spoil(s.Intents, api.ViewIntent{View: api.View{Add: 8, Del: 8}})
}

// stamped tells whether each of some lists has memory of its own, spare room included: each gets a stamp of its own.
func stamped[T comparable](lists [][]T, stamp func(i int) T) bool {
	for i, l := range lists {
		spoil(l, stamp(i))
	}
	for i, l := range lists {
		if slices.ContainsFunc(l[:cap(l)], func(x T) bool { return x != stamp(i) }) {
			return false
		}
	}
	return true
}

// apart tells whether no two lists of some states, and of no others beside them, share memory; it writes over all.
func apart(books [][]api.Entry, wrote [][]api.Cell, views [][]api.View, states ...api.State) bool {
	var bookLists [][]api.ViewBook
	var cellLists [][]api.ViewCells
	var intentLists [][]api.ViewIntent
	for _, s := range states {
		for _, b := range s.Books {
			books = append(books, b.Book)
		}
		for _, c := range s.Cells {
			wrote = append(wrote, c.Cells)
		}
		bookLists, cellLists, intentLists = append(bookLists, s.Books), append(cellLists, s.Cells), append(intentLists, s.Intents)
	}
	ok := stamped(books, func(i int) api.Entry { return api.Entry{Key: 100 + i} })
	ok = stamped(wrote, func(i int) api.Cell { return api.Cell{Node: 100 + i} }) && ok
	ok = stamped(views, func(i int) api.View { return api.View{Add: 100 + i} }) && ok
	ok = stamped(intentLists, func(i int) api.ViewIntent { return api.ViewIntent{View: api.View{Add: 100 + i}} }) && ok
	for i := range states {
		spoil(bookLists[i], api.ViewBook{View: api.View{Add: 100 + i}})
		spoil(cellLists[i], api.ViewCells{View: api.View{Add: 100 + i}})
	}
	for i := range states {
		ok = ok && !slices.ContainsFunc(bookLists[i][:cap(bookLists[i])], func(b api.ViewBook) bool { return b.View.Add != 100+i })
		ok = ok && !slices.ContainsFunc(cellLists[i][:cap(cellLists[i])], func(c api.ViewCells) bool { return c.View.Add != 100+i })
	}
	return ok
}

// manyStates lists states that records lead to.
func manyStates() []api.State {
	l := []api.State{New(api.View{}), New(api.View{Add: 7, Del: 1}), someState()}
	for cut := range someLog() {
		l = append(l, reckoned(api.View{Add: 7}, someLog()[:cut]))
	}
	r := rand.New(rand.NewSource(129))
	for range 60 {
		l = append(l, reckoned(randomLog(r)))
	}
	return l
}

// P12.1 Copy: the same, and what is copied stays.
func TestCopy(t *testing.T) {
	for _, s := range manyStates() {
		was := kept(s)
		c := Copy(s)
		if !alike(c, was) || !alike(s, was) || !Same(c, s) {
			t.Fatalf("Copy(%v) = %v", was, c)
		}
	}
	for _, turn := range turns() {
		s := changed(someState(), turn)
		if c := Copy(s); !alike(c, s) {
			t.Fatalf("Copy(%v) = %v", s, c)
		}
	}
	for _, x := range append(oddValues(), otherNaN()) {
		s := Of(api.View{}, []api.Rec{valueRec(api.View{}, entry(0, 1, 0, x))})
		if c := Copy(s); !alike(c, s) || len(Book(c, api.View{})) != 1 || bitsOf(Book(c, api.View{})[0].Value) != bitsOf(x) {
			t.Fatalf("Copy(%v) = %v", s, c)
		}
	}
}

// P12.1 Copy: in memory of its own: what is written into the copy isn't in the state, nor the other way round.
func TestCopyMemory(t *testing.T) {
	for _, s := range manyStates() {
		was := kept(s)
		part := roomyState(s)
		room := withRoom(part)
		c := Copy(part)
		other := Copy(part)
		for i := range c.Books {
			c.Books[i].Book = append(c.Books[i].Book, entry(7, 7, 7, 7))
		}
		for i := range c.Cells {
			c.Cells[i].Cells = append(c.Cells[i].Cells, cell(7, 7, 7))
		}
		c.Books = append(c.Books, api.ViewBook{View: api.View{Add: 77}})
		c.Cells = append(c.Cells, api.ViewCells{View: api.View{Add: 77}})
		c.Intents = append(c.Intents, api.ViewIntent{View: api.View{Add: 77}})
		spoilState(c)
		if !alike(part, was) || !alike(withRoom(part), room) || !alike(other, was) {
			t.Fatalf("writing into a Copy has made of %v: %v", was, part)
		}
		spoilState(part)
		if !alike(other, was) {
			t.Fatalf("writing into %v has made of its Copy %v", was, other)
		}
		part = roomyState(s)
		if !apart(nil, nil, nil, part, Copy(part), Copy(part)) {
			t.Fatalf("two lists of Copies of %v share memory", was)
		}
	}
}

// everyKind lists records of each Kind that have an effect on someState, and some that have none.
func everyKind() []api.Rec {
	v, other := api.View{Add: 7}, api.View{Add: 9, Del: 9}
	l := []api.Rec{
		valueRec(v, entry(0, 9, 1, 2)), valueRec(v, entry(1, 9, 1, 2)), valueRec(other, entry(1, 9, 1, 2)), valueRec(v, entry(0, 1, 1, 2)),
		cellRec(v, cell(0, 32, 0)), cellRec(v, cell(1, 32, 0)), cellRec(other, cell(1, 32, 0)),
		intentRec(v, 32, 0), intentRec(other, 32, 0), intentRec(api.View{Del: 63}, 32, 0),
		markRec(v), markRec(api.View{Add: 63, Del: 63}), tagRec(1), tagRec(100), bootRec(1), bootRec(100),
	}
	for kind := -1; kind < 9; kind++ {
		l = append(l, api.Rec{Kind: kind}, api.Rec{Kind: kind, View: api.View{Add: 64, Del: -1}, Cell: cell(7, 64, 64), Entry: entry(4, 0, 0, 1), N: -1})
	}
	return l
}

// DOC.md, Rules: what is handed in stays as it is, spare room too.
func TestArgumentsStay(t *testing.T) {
	states := manyStates()
	for i, s := range states {
		part := roomyState(s)
		was := withRoom(part)
		for _, r := range everyKind() {
			Apply(part, r)
		}
		for _, v := range append(Seen(part), api.View{}, api.View{Add: 63, Del: 63}) {
			Book(part, v)
			Cells(part, v)
			Intent(part, v)
		}
		Copy(part)
		Same(part, states[(i+1)%len(states)])
		Same(states[(i+1)%len(states)], part)
		Same(part, kept(part))
		if !alike(part, s) || !alike(withRoom(part), was) {
			t.Fatalf("%v became %v, with its room %v", s, part, withRoom(part))
		}
	}
	l := roomy(someLog(), tagRec(9))
	was := slices.Clone(l[:cap(l)])
	Of(api.View{Add: 7}, l)
	if !slices.EqualFunc(l[:cap(l)], was, func(x, y api.Rec) bool {
		same := bitsOf(x.Entry.Value) == bitsOf(y.Entry.Value)
		x.Entry.Value, y.Entry.Value = 0, 0
		return same && x == y
	}) {
		t.Fatalf("a log became %v", l[:cap(l)])
	}
}

// DOC.md, Rules: what is handed in isn't kept, and an answer shares nothing with it, nor with another answer.
func TestAnswersOwn(t *testing.T) {
	for _, s := range manyStates() {
		for _, r := range everyKind() {
			part := roomyState(s)
			got, again := Apply(part, r), Apply(part, r)
			was := kept(got)
			spoilState(again)
			if !alike(got, was) || !alike(part, s) {
				t.Fatalf("two answers of Apply(%v, %v) share memory", s, r)
			}
			spoilState(part)
			if !alike(got, was) {
				t.Fatalf("Apply(%v, %v) keeps what was handed in: %v", s, r, got)
			}
			part = roomyState(s)
			if !apart(nil, nil, nil, part, Apply(part, r), Apply(part, r)) {
				t.Fatalf("two lists of %v, or of what Apply of %v makes of it, share memory", s, r)
			}
		}
		part := roomyState(s)
		var books [][]api.Entry
		var wrote [][]api.Cell
		views := [][]api.View{Seen(part), Seen(part)}
		for _, v := range views[0] {
			books = append(books, Book(part, v), Book(part, v))
			wrote = append(wrote, Cells(part, v), Cells(part, v))
		}
		if !apart(books, wrote, views, part) {
			t.Fatalf("an answer of Book, Cells or Seen shares memory with %v, or with another one", s)
		}
	}
}

// DOC.md, Rules: what Of answers is its own too, and stays when the log is written over.
func TestOfOwn(t *testing.T) {
	r := rand.New(rand.NewSource(130))
	for range 500 {
		first, l := randomLog(r)
		want := reckoned(first, l)
		one, other := Of(first, l), Of(first, l)
		spoil(l, tagRec(99))
		if !alike(one, want) {
			t.Fatalf("a log that was written over has made of %v: %v", want, one)
		}
		spoilState(other)
		if !alike(one, want) {
			t.Fatalf("another answer that was written over has made of %v: %v", want, one)
		}
		if !apart(nil, nil, nil, one, Copy(want), want) {
			t.Fatalf("two lists of %v share memory", want)
		}
	}
}

// anyNumber answers numbers of all sizes, small ones often.
func anyNumber(r *rand.Rand) int {
	switch r.Intn(6) {
	case 0:
		return farNumbers()[r.Intn(len(farNumbers()))]
	case 1:
		return int(r.Uint64())
	}
	return r.Intn(9) - 1
}

// anyView answers what may be a set and may be none.
func anyView(r *rand.Rand) api.View { return api.View{Add: anyNumber(r), Del: anyNumber(r)} }

// anyEntry answers what may be an entry and may be none.
func anyEntry(r *rand.Rand) api.Entry {
	return entry(anyNumber(r), anyNumber(r), anyNumber(r), math.Float64frombits(r.Uint64()))
}

// anyCell answers what may be a cell and may be none.
func anyCell(r *rand.Rand) api.Cell { return api.Cell{Node: anyNumber(r), Change: anyView(r)} }

// anyRec answers what may be a record and may be none.
func anyRec(r *rand.Rand) api.Rec {
	return api.Rec{Kind: anyNumber(r), View: anyView(r), Cell: anyCell(r), Entry: anyEntry(r), N: anyNumber(r)}
}

// anyState answers what may be a State and may be none: lists in no order, views twice, nothing in them, or too much.
func anyState(r *rand.Rand) api.State {
	s := api.State{Held: anyView(r), Inc: anyNumber(r), Last: anyNumber(r)}
	for range r.Intn(9) {
		b, c := api.ViewBook{View: anyView(r)}, api.ViewCells{View: anyView(r)}
		for range r.Intn(7) {
			b.Book, c.Cells = append(b.Book, anyEntry(r)), append(c.Cells, anyCell(r))
		}
		s.Books, s.Cells = append(s.Books, b), append(s.Cells, c)
		s.Intents = append(s.Intents, api.ViewIntent{View: anyView(r), Change: anyView(r)})
	}
	return s
}

// ends makes all calls with a state, a record and a view, and tells whether each answers the same twice.
func ends(s, other api.State, r api.Rec, v api.View) bool {
	change, has := Intent(s, v)
	again, hasAgain := Intent(s, v)
	return alike(New(v), New(v)) && alike(Apply(s, r), Apply(s, r)) && alike(Copy(s), s) &&
		alikeEntries(Book(s, v), Book(s, v)) && slices.Equal(Cells(s, v), Cells(s, v)) &&
		change == again && has == hasAgain && (has || change == api.View{}) &&
		Same(s, other) == Same(s, other) && Same(s, s) && slices.Equal(Seen(s), Seen(s))
}

// P1 and P2: any states and any records: every call ends, and twice with the same answer.
func TestAnyStates(t *testing.T) {
	r := rand.New(rand.NewSource(131))
	for range 20000 {
		s, other, rec, v := anyState(r), anyState(r), anyRec(r), anyView(r)
		was := kept(s)
		if !ends(s, other, rec, v) || !ends(someState(), s, rec, v) || !ends(s, someState(), someLog()[r.Intn(15)], v) {
			t.Fatalf("%v, %v, %v, %v", s, other, rec, v)
		}
		if !alike(s, was) {
			t.Fatalf("%v became %v", was, s)
		}
	}
}

// P1 and P2: logs of any records: Of ends, twice with the same answer.
func TestAnyLogs(t *testing.T) {
	r := rand.New(rand.NewSource(132))
	for range 3000 {
		var l []api.Rec
		for range r.Intn(40) {
			l = append(l, anyRec(r))
		}
		first := anyView(r)
		was := slices.Clone(l)
		s := Of(first, l)
		if !alike(s, Of(first, l)) || fmt.Sprint(l) != fmt.Sprint(was) {
			t.Fatalf("Of(%v, %v) = %v", first, was, s)
		}
		want := New(first)
		for _, rec := range l {
			want = Apply(want, rec)
		}
		if !alike(s, want) {
			t.Fatalf("Of(%v, %v) = %v, and one Apply after the other %v", first, was, s, want)
		}
	}
}

// P1: records that are wrong in one part alone.
func TestWrongRecords(t *testing.T) {
	for _, s := range []api.State{{}, New(api.View{Add: 7}), someState()} {
		for _, far := range append(farNumbers(), 0, 4, 6, 7) {
			for _, turn := range []func(r *api.Rec){
				func(r *api.Rec) { r.Kind = far },
				func(r *api.Rec) { r.View.Add = far }, func(r *api.Rec) { r.View.Del = far }, func(r *api.Rec) { r.N = far },
				func(r *api.Rec) { r.Cell.Node = far }, func(r *api.Rec) { r.Cell.Change.Add = far }, func(r *api.Rec) { r.Cell.Change.Del = far },
				func(r *api.Rec) { r.Entry.Key = far }, func(r *api.Rec) { r.Entry.Tag.Num = far }, func(r *api.Rec) { r.Entry.Tag.Node = far },
			} {
				for _, r := range someLog() {
					turn(&r)
					if !ends(s, s, r, r.View) {
						t.Fatalf("%v, %v", s, r)
					}
				}
			}
		}
	}
}

// P1: lists that are long come to an end soon, of what are no States and no records too.
func TestLongListsEnd(t *testing.T) {
	var s api.State
	var l []api.Rec
	r := rand.New(rand.NewSource(133))
	for i := range 200000 {
		v := api.View{Add: r.Int(), Del: -i}
		s.Books = append(s.Books, api.ViewBook{View: v, Book: []api.Entry{entry(i, i, i, math.NaN())}})
		s.Cells = append(s.Cells, api.ViewCells{View: v, Cells: []api.Cell{cell(i, i, i)}})
		s.Intents = append(s.Intents, api.ViewIntent{View: v})
		l = append(l, valueRec(v, entry(1, 2, 3, 4)), cellRec(v, cell(1, 2, 3)), intentRec(v, 4, 5), markRec(v))
	}
	for _, rec := range someLog()[:12] {
		Apply(s, rec)
	}
	if !ends(s, someState(), l[0], l[0].View) {
		t.Error("a long state")
	}
	if again := Of(api.View{}, l); !alike(again, Of(api.View{}, l)) {
		t.Error("a long log")
	}
	one := api.State{Books: []api.ViewBook{{Book: make([]api.Entry, 1000000)}}, Cells: []api.ViewCells{{Cells: make([]api.Cell, 1000000)}}}
	for _, v := range []api.View{{}, {Add: 1}} {
		for _, rec := range []api.Rec{valueRec(v, entry(1, 2, 3, 4)), cellRec(v, cell(1, 2, 3))} {
			if !ends(one, s, rec, v) {
				t.Error("a state with long lists")
			}
		}
	}
}
