package replica

import (
	"fmt"
	"maps"
	"math"
	"math/rand"
	"slices"
	"testing"

	"ropeway/api"
	"ropeway/fold"
	"ropeway/log"
	"ropeway/msg"
)

// minusZero answers the zero below 0.
func minusZero() float64 { return math.Copysign(0, -1) }

// otherNaN answers what is not a number, by other bits than those of the language's own.
func otherNaN() float64 { return math.Float64frombits(0xFFF0000000000007) }

// bitsOf answers a value's bits, those of what is not a number in their one form.
func bitsOf(x float64) uint64 {
	if x != x {
		return 0x7FF8000000000001
	}
	return math.Float64bits(x)
}

// oddValues lists values, no two of them the same.
func oddValues() []float64 {
	return []float64{0, minusZero(), math.NaN(), math.Inf(1), math.Inf(-1), 1, -1, 0.1, math.MaxFloat64, math.SmallestNonzeroFloat64}
}

// farNumbers lists numbers that are no node, key, set, kind, or count.
func farNumbers() []int {
	return []int{-1, 64, 65, 128, 255, 256, 1 << 31, 1 << 32, 1<<32 + 1, 1 << 57, 1 << 62, math.MaxInt, math.MaxInt - 1,
		-2, -63, -64, -65, -1 << 32, math.MinInt, math.MinInt + 1}
}

// everySet lists all sets of changes that are RIGHT, by rising NAMES.
func everySet() []api.View {
	var l []api.View
	for add := range 64 {
		for del := range 64 {
			l = append(l, api.View{Add: add, Del: del})
		}
	}
	return l
}

// nameOf answers the NAME of a set that is RIGHT.
func nameOf(v api.View) int { return v.Add*64 + v.Del }

// holds tells whether all changes of the one set are in the other.
func holds(elder, later api.View) bool {
	return elder.Add&^later.Add == 0 && elder.Del&^later.Del == 0
}

// newer tells whether the one tag is newer than the other.
func newer(a, b api.Tag) bool { return a.Num > b.Num || a.Num == b.Num && a.Node > b.Node }

// entry answers an entry in few words.
func entry(key, number, node int, x float64) api.Entry {
	return api.Entry{Key: key, Tag: api.Tag{Num: number, Node: node}, Value: x}
}

// cell answers a cell in few words.
func cell(node, add, del int) api.Cell {
	return api.Cell{Node: node, Change: api.View{Add: add, Del: del}}
}

// valueRec answers a record of an entry.
func valueRec(v api.View, e api.Entry) api.Rec {
	return api.Rec{Kind: api.RecValue, View: v, Entry: e}
}

// cellRec answers a record of a cell.
func cellRec(v api.View, c api.Cell) api.Rec {
	return api.Rec{Kind: api.RecCell, View: v, Cell: c}
}

// intentRec answers a record of what one means to write.
func intentRec(v api.View, add, del int) api.Rec {
	return api.Rec{Kind: api.RecIntent, View: v, Cell: cell(0, add, del)}
}

// markRec answers a record of a view that is held.
func markRec(v api.View) api.Rec { return api.Rec{Kind: api.RecMark, View: v} }

// asked answers a question of a kind, without cells and book, from node 4 to node 2.
func asked(kind int, v api.View) api.Msg {
	return api.Msg{Kind: kind, From: 4, To: 2, Inc: 3, Seq: 9, View: v}
}

// putCells answers a question that puts cells.
func putCells(v api.View, l ...api.Cell) api.Msg {
	q := asked(api.PutCells, v)
	q.Cells = l
	return q
}

// putBook answers a question that puts a book.
func putBook(v api.View, l ...api.Entry) api.Msg {
	q := asked(api.PutBook, v)
	q.Book = l
	return q
}

// sameEntries tells whether two books are the same, reckoned without the layers.
func sameEntries(a, b []api.Entry) bool {
	return slices.EqualFunc(a, b, func(x, y api.Entry) bool {
		return x.Key == y.Key && x.Tag == y.Tag && bitsOf(x.Value) == bitsOf(y.Value)
	})
}

// sameRecs tells whether two lists of records are the same, reckoned without the layers.
func sameRecs(a, b []api.Rec) bool {
	return slices.EqualFunc(a, b, func(x, y api.Rec) bool {
		same := bitsOf(x.Entry.Value) == bitsOf(y.Entry.Value)
		x.Entry.Value, y.Entry.Value = 0, 0
		return same && x == y
	})
}

// sameMsg tells whether two messages are the same, reckoned without the layers.
func sameMsg(a, b api.Msg) bool {
	heads := a.Kind == b.Kind && a.From == b.From && a.To == b.To && a.Inc == b.Inc && a.Seq == b.Seq && a.View == b.View
	return heads && slices.Equal(a.Cells, b.Cells) && sameEntries(a.Book, b.Book)
}

// sameState tells whether all parts of two states are the same, reckoned without the layers.
func sameState(a, b api.State) bool {
	sameBook := func(x, y api.ViewBook) bool { return x.View == y.View && sameEntries(x.Book, y.Book) }
	sameCells := func(x, y api.ViewCells) bool { return x.View == y.View && slices.Equal(x.Cells, y.Cells) }
	return slices.EqualFunc(a.Books, b.Books, sameBook) && slices.EqualFunc(a.Cells, b.Cells, sameCells) &&
		slices.Equal(a.Intents, b.Intents) && a.Held == b.Held && a.Inc == b.Inc && a.Last == b.Last
}

// keptState answers a copy of a state, made without the layers.
func keptState(s api.State) api.State {
	s.Books, s.Cells, s.Intents = slices.Clone(s.Books), slices.Clone(s.Cells), slices.Clone(s.Intents)
	for i := range s.Books {
		s.Books[i].Book = slices.Clone(s.Books[i].Book)
	}
	for i := range s.Cells {
		s.Cells[i].Cells = slices.Clone(s.Cells[i].Cells)
	}
	return s
}

// keptMsg answers a copy of a message, made without the layers.
func keptMsg(m api.Msg) api.Msg {
	m.Cells, m.Book = slices.Clone(m.Cells), slices.Clone(m.Book)
	return m
}

// keeper is what a node has of books and cells, and the view it holds, reckoned in maps and without the layers.
type keeper struct {
	books map[api.View]map[int]api.Entry
	wrote map[api.View]map[int]api.View
	held  api.View
}

// keep answers a keeper behind records that are RIGHT.
func keep(first api.View, l ...api.Rec) *keeper {
	k := &keeper{map[api.View]map[int]api.Entry{}, map[api.View]map[int]api.View{}, first}
	for _, r := range l {
		k.take(r)
	}
	return k
}

// take reckons a record that is RIGHT.
func (k *keeper) take(r api.Rec) {
	switch r.Kind {
	case 1:
		if k.books[r.View] == nil {
			k.books[r.View] = map[int]api.Entry{}
		}
		if old, ok := k.books[r.View][r.Entry.Key]; !ok || newer(r.Entry.Tag, old.Tag) {
			k.books[r.View][r.Entry.Key] = r.Entry
		}
	case 2:
		if k.wrote[r.View] == nil {
			k.wrote[r.View] = map[int]api.View{}
		}
		if _, ok := k.wrote[r.View][r.Cell.Node]; !ok {
			k.wrote[r.View][r.Cell.Node] = r.Cell.Change
		}
	case 3:
		if holds(k.held, r.View) {
			k.held = r.View
		}
	}
}

// entries lists what there is of a view's book.
func (k *keeper) entries(v api.View) []api.Entry {
	var l []api.Entry
	for _, key := range slices.Sorted(maps.Keys(k.books[v])) {
		l = append(l, k.books[v][key])
	}
	return l
}

// cells lists what there is of a view's cells.
func (k *keeper) cells(v api.View) []api.Cell {
	var l []api.Cell
	for _, node := range slices.Sorted(maps.Keys(k.wrote[v])) {
		l = append(l, api.Cell{Node: node, Change: k.wrote[v][node]})
	}
	return l
}

// news lists the records that are to be written at a question that is RIGHT.
func (k *keeper) news(q api.Msg) []api.Rec {
	var l []api.Rec
	for _, c := range q.Cells {
		if _, had := k.wrote[q.View][c.Node]; !had {
			l = append(l, cellRec(q.View, c))
		}
	}
	for _, e := range q.Book {
		if old, had := k.books[q.View][e.Key]; !had || newer(e.Tag, old.Tag) {
			l = append(l, valueRec(q.View, e))
		}
	}
	if q.Kind == 4 && q.View != k.held && holds(k.held, q.View) {
		l = append(l, markRec(q.View))
	}
	return l
}

// serve answers what Serve should, of messages that are RIGHT.
func (k *keeper) serve(me int, q api.Msg) ([]api.Rec, api.Msg, bool) {
	if q.Kind > 4 || q.To != me {
		return nil, api.Msg{}, false
	}
	a := api.Msg{Kind: []int{5, 7, 6, 7, 7}[q.Kind], From: me, To: q.From, Inc: q.Inc, Seq: q.Seq, View: q.View}
	switch q.Kind {
	case 0:
		a.Cells = k.cells(q.View)
	case 2:
		a.Book = k.entries(q.View)
	}
	return k.news(q), a, true
}

// serves tells whether Serve answers what it should at a message that is RIGHT, and P13.2 holds; it answers the
// state behind the records, and these.
func serves(t *testing.T, me int, s api.State, k *keeper, q api.Msg) (api.State, []api.Rec) {
	t.Helper()
	if !msg.Right(q) {
		t.Fatalf("the test asks what isn't RIGHT: %v", q)
	}
	wantRecs, want, wantOK := k.serve(me, q)
	recs, a, ok := Serve(me, s, q)
	if ok != wantOK || !sameRecs(recs, wantRecs) || !sameMsg(a, want) {
		t.Fatalf("Serve(%d, %v, %v) = %v, %v, %v, and should be %v, %v, %v", me, s, q, recs, a, ok, wantRecs, want, wantOK)
	}
	if ok && (!msg.Right(a) || !msg.Answers(q, a)) {
		t.Fatalf("%v isn't RIGHT, or doesn't answer %v", a, q)
	}
	if i := slices.IndexFunc(recs, func(r api.Rec) bool { return !log.Right(r) }); i >= 0 {
		t.Fatalf("Serve(%d, %v, %v) has %v written, which isn't RIGHT", me, s, q, recs[i])
	}
	later := applied(s, recs)
	if ok {
		allPut(t, me, s, later, q, a)
	}
	return later, recs
}

// applied answers the state behind records.
func applied(s api.State, l []api.Rec) api.State {
	for _, r := range l {
		s = fold.Apply(s, r)
	}
	return s
}

// allPut tells whether a state has all that a question put, nothing else is changed, and nothing more is written (P13.2).
func allPut(t *testing.T, me int, elder, later api.State, q, a api.Msg) {
	t.Helper()
	entries, wrote := fold.Book(later, q.View), fold.Cells(later, q.View)
	for _, e := range q.Book {
		if !slices.ContainsFunc(entries, func(x api.Entry) bool { return x.Key == e.Key && !newer(e.Tag, x.Tag) }) {
			t.Fatalf("behind %v the book has nothing as new as %v: %v", q, e, entries)
		}
	}
	for _, c := range q.Cells {
		if !slices.ContainsFunc(wrote, func(x api.Cell) bool { return x.Node == c.Node }) {
			t.Fatalf("behind %v node %d has no cell: %v", q, c.Node, wrote)
		}
	}
	if q.Kind == api.PutMark && holds(later.Held, q.View) && later.Held != q.View {
		t.Fatalf("behind %v Held is %v", q, later.Held)
	}
	if q.Kind != api.PutBook && !sameEntries(entries, fold.Book(elder, q.View)) || q.Kind != api.PutCells && !slices.Equal(wrote, fold.Cells(elder, q.View)) {
		t.Fatalf("behind %v the book is %v, the cells are %v", q, entries, wrote)
	}
	recs, again, ok := Serve(me, later, q)
	if !ok || len(recs) != 0 || !sameMsg(again, a) {
		t.Fatalf("behind the records of %v the same question is answered %v, %v, %v", q, recs, again, ok)
	}
}

// someLog lists records of each kind, of a few views, so that nothing of the State they lead to is zero.
func someLog() []api.Rec {
	a, b, c := api.View{Add: 7}, api.View{Add: 7, Del: 1}, api.View{Add: 15}
	return []api.Rec{
		{Kind: api.RecBoot, N: 2}, {Kind: api.RecTag, N: 5},
		valueRec(c, entry(1, 2, 0, math.NaN())), valueRec(a, entry(0, 5, 1, 0.5)), valueRec(a, entry(3, 4, 5, minusZero())),
		valueRec(b, entry(2, 1, 0, 0)), cellRec(a, cell(2, 8, 0)), cellRec(a, cell(0, 0, 1)), cellRec(c, cell(5, 16, 2)),
		cellRec(b, cell(3, 1, 1)), intentRec(b, 0, 1), intentRec(a, 8, 0), intentRec(c, 63, 63), markRec(c),
	}
}

// someState answers the state of someLog, and its reckoning.
func someState() (api.State, *keeper) {
	first := api.View{Add: 7}
	return fold.Of(first, someLog()), keep(first, someLog()...)
}

// someViews answers views of which some are within others.
func someViews(r *rand.Rand) []api.View {
	v := api.View{Add: 1 + r.Intn(7)}
	l := []api.View{v}
	for range r.Intn(6) {
		if r.Intn(2) == 0 {
			v.Add |= 1 << r.Intn(6)
		} else {
			v.Del |= 1 << r.Intn(6)
		}
		l = append(l, v, api.View{Add: v.Add, Del: r.Intn(64)}, api.View{Add: v.Del, Del: v.Add})
	}
	return l
}

// someRec answers a record that is RIGHT, of one of a few views.
func someRec(r *rand.Rand, few []api.View) api.Rec {
	v := few[r.Intn(len(few))]
	switch r.Intn(9) {
	case 0, 1, 2:
		return valueRec(v, entry(r.Intn(4), 1+r.Intn(4), r.Intn(6), oddValues()[r.Intn(10)]))
	case 3, 4, 5:
		return cellRec(v, cell(r.Intn(6), 1+r.Intn(63), r.Intn(64)))
	case 6:
		return markRec(v)
	case 7:
		return intentRec(v, r.Intn(64), 1+r.Intn(63))
	}
	return api.Rec{Kind: api.RecTag + 2*r.Intn(2), N: 1 + r.Intn(20)}
}

// randomLog answers records that are RIGHT, of one of which views of a few come, and these.
func randomLog(r *rand.Rand) (first api.View, l []api.Rec, few []api.View) {
	few = someViews(r)
	for range r.Intn(50) {
		l = append(l, someRec(r, few))
	}
	return few[r.Intn(len(few))], l, few
}

// someQuestion answers a question that is RIGHT, to a node, of one of a few views.
func someQuestion(r *rand.Rand, to int, few []api.View) api.Msg {
	q := api.Msg{Kind: r.Intn(5), From: r.Intn(6), To: to, Inc: 1 + r.Intn(1000000), Seq: 1 + r.Intn(1000000), View: few[r.Intn(len(few))]}
	switch q.Kind {
	case api.PutCells:
		for node := range 6 {
			if r.Intn(2) == 0 {
				q.Cells = append(q.Cells, cell(node, r.Intn(64), 1+r.Intn(63)))
			}
		}
	case api.PutBook:
		for key := range 4 {
			if r.Intn(3) != 0 {
				q.Book = append(q.Book, entry(key, 1+r.Intn(4), r.Intn(6), oddValues()[r.Intn(10)]))
			}
		}
	}
	return q
}

// everyQuestion lists questions of each kind, of a view, with cells and books that are partly there already in someState.
func everyQuestion(v api.View) []api.Msg {
	return []api.Msg{
		asked(api.AskCells, v), asked(api.AskBook, v), asked(api.PutCells, v), asked(api.PutBook, v), asked(api.PutMark, v),
		putCells(v, cell(0, 32, 0), cell(1, 8, 0), cell(2, 1, 1), cell(5, 0, 63)), putCells(v, cell(3, 63, 0)),
		putBook(v, entry(0, 5, 2, 7), entry(1, 1, 5, math.Inf(1)), entry(2, 1, 0, 7), entry(3, 4, 4, otherNaN())), putBook(v, entry(1, 1000000, 5, minusZero())),
	}
}

// everyKind lists messages of each of the eight kinds that are RIGHT, with all that they may have.
func everyKind(v api.View) []api.Msg {
	var l []api.Msg
	for kind := range 8 {
		m := asked(kind, v)
		l = append(l, m)
		switch kind {
		case api.PutCells, api.TellCells:
			m.Cells = []api.Cell{cell(1, 8, 0), cell(4, 0, 2)}
			l = append(l, m)
		case api.PutBook, api.TellBook:
			m.Book = []api.Entry{entry(0, 9, 1, 2), entry(1, 9, 0, math.NaN())}
			l = append(l, m)
		}
	}
	return l
}

// The chapter's example: a book that is put twice is written once.
func TestExample(t *testing.T) {
	v := api.View{Add: 7}
	q := putBook(v, entry(1, 4, 0, 0.5), entry(2, 3, 5, math.NaN()))
	s := fold.New(v)
	recs, a, ok := Serve(2, s, q)
	want := []api.Rec{
		{Kind: api.RecValue, View: v, Entry: entry(1, 4, 0, 0.5)}, {Kind: api.RecValue, View: v, Entry: entry(2, 3, 5, math.NaN())},
	}
	done := api.Msg{Kind: api.Done, From: 2, To: 4, Inc: 3, Seq: 9, View: v}
	if !ok || !sameRecs(recs, want) || !sameMsg(a, done) {
		t.Fatalf("put once: %v, %v, %v", recs, a, ok)
	}
	s = applied(s, recs)
	if recs, a, ok = Serve(2, s, q); !ok || len(recs) != 0 || !sameMsg(a, done) {
		t.Fatalf("put twice: %v, %v, %v", recs, a, ok)
	}
	serves(t, 2, s, keep(v, want...), q)
}

// P13.1: known questions and answers, of a state that has much.
func TestServeKnown(t *testing.T) {
	s, k := someState()
	v, none := api.View{Add: 7}, api.View{Add: 3, Del: 4}
	told := []api.Cell{cell(0, 0, 1), cell(2, 8, 0)}
	entries := []api.Entry{entry(0, 5, 1, 0.5), entry(3, 4, 5, minusZero())}
	for i, x := range []struct {
		q    api.Msg
		recs []api.Rec
		a    api.Msg
	}{
		{asked(0, v), nil, api.Msg{Kind: 5, View: v, Cells: told}},
		{asked(0, none), nil, api.Msg{Kind: 5, View: none}},
		{asked(2, v), nil, api.Msg{Kind: 6, View: v, Book: entries}},
		{asked(2, none), nil, api.Msg{Kind: 6, View: none}},
		{putCells(v, cell(0, 8, 0), cell(1, 8, 0), cell(5, 0, 2)), []api.Rec{cellRec(v, cell(1, 8, 0)), cellRec(v, cell(5, 0, 2))}, api.Msg{Kind: 7, View: v}},
		{putCells(v, told...), nil, api.Msg{Kind: 7, View: v}},
		{putCells(none, told...), []api.Rec{cellRec(none, told[0]), cellRec(none, told[1])}, api.Msg{Kind: 7, View: none}},
		{putBook(v, entry(0, 5, 0, 1), entry(2, 1, 0, 2), entry(3, 5, 0, 3)), []api.Rec{valueRec(v, entry(2, 1, 0, 2)), valueRec(v, entry(3, 5, 0, 3))}, api.Msg{Kind: 7, View: v}},
		{putBook(v, entries...), nil, api.Msg{Kind: 7, View: v}},
		{putBook(none, entries...), []api.Rec{valueRec(none, entries[0]), valueRec(none, entries[1])}, api.Msg{Kind: 7, View: none}},
		{asked(4, api.View{Add: 31}), []api.Rec{markRec(api.View{Add: 31})}, api.Msg{Kind: 7, View: api.View{Add: 31}}},
		{asked(4, v), nil, api.Msg{Kind: 7, View: v}},
		{asked(4, none), nil, api.Msg{Kind: 7, View: none}},
	} {
		x.a.From, x.a.To, x.a.Inc, x.a.Seq = 2, 4, 3, 9
		recs, a, ok := Serve(2, s, x.q)
		if !ok || !sameRecs(recs, x.recs) || !sameMsg(a, x.a) {
			t.Errorf("%d: %v, %v, %v", i, recs, a, ok)
		}
		serves(t, 2, s, k, x.q)
	}
}

// isNothing tells whether Serve answers false, and nothing beside it.
func isNothing(t *testing.T, me int, s api.State, q api.Msg) {
	t.Helper()
	if recs, a, ok := Serve(me, s, q); ok || len(recs) != 0 || !sameMsg(a, api.Msg{}) {
		t.Fatalf("Serve(%d, %v, %v) = %v, %v, %v", me, s, q, recs, a, ok)
	}
}

// P13.1: a message of each kind that is no question, and of numbers that are no kind.
func TestNoQuestion(t *testing.T) {
	some, k := someState()
	for _, s := range []api.State{some, fold.New(api.View{Add: 7}), fold.New(api.View{})} {
		for me := range 6 {
			for from := range 6 {
				for _, v := range []api.View{{}, {Add: 7}, {Add: 15}, {Add: 63, Del: 63}} {
					for _, m := range everyKind(v) {
						m.From, m.To = from, me
						if m.Kind >= api.TellCells {
							isNothing(t, me, s, m)
						}
					}
				}
			}
			for _, kind := range append(farNumbers(), 5, 6, 7, 8, 9, 10) {
				for _, m := range everyKind(api.View{Add: 31}) {
					m.Kind, m.To = kind, me
					isNothing(t, me, s, m)
				}
			}
		}
	}
	for _, m := range everyKind(api.View{Add: 31}) {
		serves(t, 2, some, k, m)
	}
}

// P13.1: a To that isn't me, for each me, and one that is.
func TestOtherTo(t *testing.T) {
	s, k := someState()
	for _, v := range []api.View{{Add: 7}, {Add: 31}} {
		for _, m := range everyKind(v) {
			for me := range 6 {
				for to := range 6 {
					for from := range 6 {
						m.From, m.To = from, to
						if me != to {
							isNothing(t, me, s, m)
						}
						serves(t, me, s, k, m)
					}
				}
				for _, to := range append(farNumbers(), me+6, me-6, me+256, me+1<<32, ^me) {
					m.To = to
					isNothing(t, me, s, m)
				}
			}
		}
	}
}

// P13.1: in each answer From, To, Inc, Seq, View and the kind: the least numbers, the greatest, and some between.
func TestHeads(t *testing.T) {
	some, k := someState()
	numbers := []int{1, 2, 9, 255, 256, 65536, 999999, 1000000}
	for _, v := range []api.View{{}, {Add: 7}, {Add: 7, Del: 1}, {Add: 31}, {Del: 7}, {Add: 63, Del: 63}} {
		for _, m := range everyKind(v) {
			for me := range 6 {
				for from := range 6 {
					for _, inc := range numbers {
						for _, seq := range numbers {
							m.From, m.To, m.Inc, m.Seq = from, me, inc, seq
							_, a, ok := Serve(me, some, m)
							_, want, wantOK := k.serve(me, m)
							if ok != wantOK || !sameMsg(a, want) || ok && !msg.Answers(m, a) {
								t.Fatalf("Serve(%d, some, %v) = %v, %v", me, m, a, ok)
							}
						}
					}
					serves(t, me, some, k, m)
				}
			}
		}
	}
}

// P13.1: each kind of question of every view, of a state in which some have things: the View is told and written as it came.
func TestEveryView(t *testing.T) {
	var l []api.Rec
	// Of each Add some Dels have something, of each Del some Adds, of each of the three others.
	for _, v := range everySet() {
		if (v.Add+v.Del)%3 == 0 {
			l = append(l, valueRec(v, entry(v.Add%4, 1+nameOf(v), v.Del%6, float64(nameOf(v)))))
		}
		if (v.Add*2+v.Del)%5 == 1 {
			l = append(l, cellRec(v, cell(v.Del%6, 1+v.Add%63, v.Del)))
		}
		if (v.Add+v.Del*3)%7 == 2 {
			l = append(l, intentRec(v, v.Del, 1+v.Add%63))
		}
	}
	first := api.View{Add: 1}
	s, k := fold.Of(first, l), keep(first, l...)
	for _, v := range everySet() {
		for _, q := range everyQuestion(v) {
			recs, a, ok := Serve(2, s, q)
			wantRecs, want, wantOK := k.serve(2, q)
			if ok != wantOK || !sameRecs(recs, wantRecs) || !sameMsg(a, want) || !msg.Right(a) || !msg.Answers(q, a) {
				t.Fatalf("Serve at %v = %v, %v, %v, and should be %v, %v, %v", q, recs, a, ok, wantRecs, want, wantOK)
			}
		}
	}
}

// P13.1: a view that has a book, cells or an intent alone, any two of these, all, and none; and others beside it.
func TestOneOfThree(t *testing.T) {
	first := api.View{Add: 7}
	for _, v := range []api.View{{}, {Add: 1}, {Del: 1}, first, {Add: 7, Del: 2}, {Add: 2, Del: 7}, {Add: 63, Del: 63}} {
		for set := range 8 {
			var l []api.Rec
			for i, r := range []api.Rec{valueRec(v, entry(2, 9, 3, 0.5)), cellRec(v, cell(3, 8, 1)), intentRec(v, 1, 8)} {
				if set&(1<<i) != 0 {
					l = append(l, r)
				}
			}
			s, k := fold.Of(first, l), keep(first, l...)
			for _, of := range []api.View{v, first, {}, {Add: v.Add}, {Del: v.Del}, {Add: v.Add ^ 8, Del: v.Del}, {Add: v.Add, Del: v.Del ^ 8}, {Add: v.Del, Del: v.Add}} {
				for _, q := range everyQuestion(of) {
					serves(t, 2, s, k, q)
				}
				// An intent is no cell: who means to write hasn't written.
				for node := range 6 {
					serves(t, 2, s, k, putCells(of, cell(node, 1, 8)))
				}
				for key := range 4 {
					serves(t, 2, s, k, putBook(of, entry(key, 9, 3, 0.5)))
				}
			}
		}
	}
}

// P13.1 AskCells, AskBook: all nodes and all keys of a view, all values, and nothing written.
func TestAskAllOfAView(t *testing.T) {
	v := api.View{Add: 31, Del: 4}
	for _, x := range append(oddValues(), otherNaN()) {
		var entries []api.Entry
		var wrote []api.Cell
		var l []api.Rec
		for key := range 4 {
			entries = append(entries, entry(key, 1000000-key, key+2, x))
			l = append(l, valueRec(v, entries[key]))
		}
		for node := range 6 {
			wrote = append(wrote, cell(node, 32>>node, node+1))
			l = append(l, cellRec(v, wrote[node]))
		}
		slices.Reverse(l)
		s := fold.Of(api.View{Add: 7}, l)
		if recs, a, ok := Serve(2, s, asked(api.AskCells, v)); !ok || len(recs) != 0 || !slices.Equal(a.Cells, wrote) || len(a.Book) != 0 {
			t.Errorf("AskCells: %v, %v, %v", recs, a, ok)
		}
		if recs, a, ok := Serve(2, s, asked(api.AskBook, v)); !ok || len(recs) != 0 || !sameEntries(a.Book, entries) || len(a.Cells) != 0 {
			t.Errorf("AskBook: %v, %v, %v", recs, a, ok)
		}
		for _, q := range everyQuestion(v) {
			serves(t, 2, s, keep(api.View{Add: 7}, l...), q)
		}
	}
}

// P13.1 PutCells: every set of nodes is put where every set of nodes wrote already, the same changes and other ones.
func TestPutCellsOfEverySet(t *testing.T) {
	v := api.View{Add: 63}
	for old := range 64 {
		var l []api.Rec
		// The records came in falling order: what is written goes by the Nodes all the same.
		for node := 5; node >= 0; node-- {
			if old&(1<<node) != 0 {
				l = append(l, cellRec(v, cell(node, 0, 1<<node)))
			}
		}
		s, k := fold.Of(v, l), keep(v, l...)
		for put := range 64 {
			for _, add := range []int{0, 1} {
				q := putCells(v)
				for node := range 6 {
					if put&(1<<node) != 0 {
						q.Cells = append(q.Cells, cell(node, add, 1<<node))
					}
				}
				_, recs := serves(t, 2, s, k, q)
				var nodes int
				for i, r := range recs {
					nodes |= 1 << r.Cell.Node
					if r.Kind != api.RecCell || r.View != v || i > 0 && r.Cell.Node <= recs[i-1].Cell.Node {
						t.Fatalf("%v where %d wrote: %v", q, old, recs)
					}
				}
				if nodes != put&^old {
					t.Fatalf("%v where %d wrote: %v", q, old, recs)
				}
			}
		}
	}
}

// P13.1 PutCells: every change, of a node that wrote already and of one that didn't.
func TestPutCellsOfEveryChange(t *testing.T) {
	v := api.View{Add: 7}
	s, _ := someState()
	for _, w := range everySet()[1:] {
		old, fresh := api.Cell{Node: 2, Change: w}, api.Cell{Node: 3, Change: w}
		if recs, _, ok := Serve(2, s, putCells(v, old)); !ok || len(recs) != 0 {
			t.Fatalf("%v is put again: %v", old, recs)
		}
		if recs, _, ok := Serve(2, s, putCells(v, fresh)); !ok || !sameRecs(recs, []api.Rec{cellRec(v, fresh)}) {
			t.Fatalf("%v is put: %v", fresh, recs)
		}
		if recs, _, ok := Serve(2, s, putCells(v, old, fresh)); !ok || !sameRecs(recs, []api.Rec{cellRec(v, fresh)}) {
			t.Fatalf("%v and %v are put: %v", old, fresh, recs)
		}
	}
}

// P13.1 PutCells, PutBook: what other views have doesn't count, nor what is held.
func TestPutBesideOtherViews(t *testing.T) {
	v := api.View{Add: 7, Del: 2}
	others := []api.View{{Add: 7}, {Del: 2}, {Add: 7, Del: 3}, {Add: 15, Del: 2}, {Add: 6, Del: 2}, {Add: 2, Del: 7}, {}, {Add: 63, Del: 63}}
	var l []api.Rec
	for _, other := range others {
		for node := range 6 {
			l = append(l, cellRec(other, cell(node, 8, 8)), intentRec(other, 8, 8))
		}
		for key := range 4 {
			l = append(l, valueRec(other, entry(key, 1000000, 5, 1)))
		}
	}
	cellsPut := putCells(v, cell(0, 8, 8), cell(1, 8, 0), cell(2, 8, 8), cell(3, 1, 1), cell(4, 1, 0), cell(5, 0, 1))
	bookPut := putBook(v, entry(0, 1, 0, 1), entry(1, 1, 5, 2), entry(2, 1000000, 5, 1), entry(3, 2, 0, 3))
	for _, first := range append(others, v) {
		s, k := fold.Of(first, l), keep(first, l...)
		if _, recs := serves(t, 2, s, k, cellsPut); len(recs) != 6 {
			t.Errorf("%v are written of six cells", recs)
		}
		if _, recs := serves(t, 2, s, k, bookPut); len(recs) != 4 {
			t.Errorf("%v are written of four entries", recs)
		}
	}
}

// P13.1 PutBook: of each of the four keys no entry is put, one where none is there, and one that is newer, older and the same.
func TestPutBookEveryCase(t *testing.T) {
	v := api.View{Add: 3, Del: 1}
	there := api.Tag{Num: 5, Node: 2}
	cases := []struct {
		old, put bool
		tag      api.Tag
		news     bool
	}{
		{false, false, api.Tag{}, false}, {false, true, api.Tag{Num: 1}, true}, {true, false, api.Tag{}, false}, {true, true, there, false},
		{true, true, api.Tag{Num: 6}, true}, {true, true, api.Tag{Num: 5, Node: 3}, true}, {true, true, api.Tag{Num: 4, Node: 5}, false}, {true, true, api.Tag{Num: 5, Node: 1}, false},
	}
	for number := range 8 * 8 * 8 * 8 {
		var l, want []api.Rec
		q := putBook(v)
		for key := range 4 {
			c := cases[number>>(3*key)&7]
			if c.old {
				l = append(l, valueRec(v, api.Entry{Key: key, Tag: there, Value: 1}))
			}
			if c.put {
				q.Book = append(q.Book, api.Entry{Key: key, Tag: c.tag, Value: 2})
			}
			if c.news {
				want = append(want, valueRec(v, api.Entry{Key: key, Tag: c.tag, Value: 2}))
			}
		}
		slices.Reverse(l)
		if _, recs := serves(t, 2, fold.Of(v, l), keep(v, l...), q); !sameRecs(recs, want) {
			t.Fatalf("%v behind %v: %v", q, l, recs)
		}
	}
}

// P13.1 PutBook: all pairs of some tags and of some values, of one key.
func TestPutBookInPairs(t *testing.T) {
	v := api.View{Add: 3, Del: 1}
	var tags []api.Tag
	for _, n := range []int{1, 2, 255, 256, 999999, 1000000} {
		for node := range 6 {
			tags = append(tags, api.Tag{Num: n, Node: node})
		}
	}
	for i, old := range tags {
		for j, put := range tags {
			e := api.Entry{Key: i % 4, Tag: put, Value: oddValues()[j%10]}
			l := []api.Rec{valueRec(v, api.Entry{Key: i % 4, Tag: old, Value: oddValues()[i%10]})}
			_, recs := serves(t, 2, fold.Of(v, l), keep(v, l...), putBook(v, e))
			if j > i && !sameRecs(recs, []api.Rec{valueRec(v, e)}) || j <= i && len(recs) != 0 {
				t.Fatalf("%v is put where %v is: %v", e, l, recs)
			}
		}
	}
	for _, x := range append(oddValues(), otherNaN()) {
		for _, y := range append(oddValues(), otherNaN()) {
			l := []api.Rec{valueRec(v, entry(1, 3, 3, x))}
			s, k := fold.Of(v, l), keep(v, l...)
			if _, recs := serves(t, 2, s, k, putBook(v, entry(1, 3, 3, y))); len(recs) != 0 {
				t.Fatalf("%v is put where %v is, with the same tag: %v", y, x, recs)
			}
			if _, recs := serves(t, 2, s, k, putBook(v, entry(1, 3, 4, y))); len(recs) != 1 || bitsOf(recs[0].Entry.Value) != bitsOf(y) {
				t.Fatalf("%v is put where %v is, with a newer tag: %v", y, x, recs)
			}
		}
	}
}

// P13.1 PutMark: every fourth view is Held, and every one marked: so one that Held is within, Held itself, less, and neither.
func TestPutMarkOfEveryView(t *testing.T) {
	all := everySet()
	for i, held := range all {
		if i%4 != i/64%4 {
			continue
		}
		s := fold.New(held)
		for _, v := range all {
			recs, a, ok := Serve(2, s, asked(api.PutMark, v))
			write := v != held && v.Add|held.Add == v.Add && v.Del|held.Del == v.Del
			if !ok || write && (len(recs) != 1 || recs[0] != markRec(v)) || !write && len(recs) != 0 {
				t.Fatalf("%v is marked where %v is held: %v, %v", v, held, recs, ok)
			}
			if !sameMsg(a, api.Msg{Kind: api.Done, From: 2, To: 4, Inc: 3, Seq: 9, View: v}) {
				t.Fatalf("%v is marked where %v is held: %v", v, held, a)
			}
		}
	}
}

// P13.1 and P13.2 PutMark: of a state that has much: nothing but Held tells whether a view is marked.
func TestPutMarkKnown(t *testing.T) {
	held := api.View{Add: 15}
	for _, x := range []struct {
		v     api.View
		write bool
	}{
		{held, false}, {api.View{Add: 31}, true}, {api.View{Add: 15, Del: 1}, true}, {api.View{Add: 63, Del: 63}, true},
		{api.View{Add: 7}, false}, {api.View{Add: 1}, false}, {api.View{}, false}, {api.View{Add: 7, Del: 1}, false}, {api.View{Add: 55}, false}, {api.View{Del: 63}, false}, {api.View{Del: 15}, false},
	} {
		s, k := someState()
		for range 2 {
			later, recs := serves(t, 2, s, k, asked(api.PutMark, x.v))
			if x.write && (!sameRecs(recs, []api.Rec{markRec(x.v)}) || later.Held != x.v) || !x.write && (len(recs) != 0 || later.Held != held) {
				t.Errorf("%v is marked: %v, held %v", x.v, recs, later.Held)
			}
			if s.Held != held {
				t.Fatalf("%v is held", s.Held)
			}
			// Once more, with all things of the view there.
			for node := range 6 {
				s, k = follow(s, k, cellRec(x.v, cell(node, 1, 2)), valueRec(x.v, entry(node%4, 1+node, node, 1)), intentRec(x.v, 1, 2))
			}
		}
	}
}

// follow answers a state and its reckoning behind records.
func follow(s api.State, k *keeper, l ...api.Rec) (api.State, *keeper) {
	for _, r := range l {
		k.take(r)
	}
	return applied(s, l), k
}

// P13.1: AskCells and AskBook behind puts: what was put is told, of this view alone.
func TestAskBehindPuts(t *testing.T) {
	v, other := api.View{Add: 7}, api.View{Add: 7, Del: 1}
	s, k := fold.New(v), keep(v)
	asks := func(told []api.Cell, entries []api.Entry) {
		t.Helper()
		if _, a, _ := Serve(2, s, asked(api.AskCells, v)); !slices.Equal(a.Cells, told) {
			t.Fatalf("the cells are %v", a.Cells)
		}
		if _, a, _ := Serve(2, s, asked(api.AskBook, v)); !sameEntries(a.Book, entries) {
			t.Fatalf("the book is %v", a.Book)
		}
		for _, of := range []api.View{v, other, {}} {
			serves(t, 2, s, k, asked(api.AskCells, of))
			serves(t, 2, s, k, asked(api.AskBook, of))
		}
	}
	put := func(q api.Msg) {
		t.Helper()
		var recs []api.Rec
		s, recs = serves(t, 2, s, k, q)
		for _, r := range recs {
			k.take(r)
		}
	}
	asks(nil, nil)
	put(putCells(v, cell(3, 8, 0)))
	asks([]api.Cell{cell(3, 8, 0)}, nil)
	put(putBook(v, entry(2, 5, 1, 0.5)))
	asks([]api.Cell{cell(3, 8, 0)}, []api.Entry{entry(2, 5, 1, 0.5)})
	put(putCells(v, cell(0, 0, 1), cell(3, 16, 0), cell(5, 8, 0)))
	put(putCells(other, cell(1, 0, 1), cell(2, 16, 0)))
	asks([]api.Cell{cell(0, 0, 1), cell(3, 8, 0), cell(5, 8, 0)}, []api.Entry{entry(2, 5, 1, 0.5)})
	put(putBook(v, entry(0, 1, 0, math.NaN()), entry(2, 5, 0, 3), entry(3, 9, 3, minusZero())))
	put(putBook(other, entry(0, 7, 0, 8), entry(1, 7, 0, 8)))
	put(asked(api.PutMark, other))
	asks([]api.Cell{cell(0, 0, 1), cell(3, 8, 0), cell(5, 8, 0)}, []api.Entry{entry(0, 1, 0, math.NaN()), entry(2, 5, 1, 0.5), entry(3, 9, 3, minusZero())})
	put(putBook(v, entry(2, 5, 2, minusZero())))
	put(putCells(v))
	put(putBook(v))
	asks([]api.Cell{cell(0, 0, 1), cell(3, 8, 0), cell(5, 8, 0)}, []api.Entry{entry(0, 1, 0, math.NaN()), entry(2, 5, 2, minusZero()), entry(3, 9, 3, minusZero())})
}

// P13.2: a put twice: the second writes nothing; nor does one with a part of it, or an older one; the rest of it, if only some was written.
func TestPutTwice(t *testing.T) {
	some, _ := someState()
	for _, s := range []api.State{some, fold.New(api.View{Add: 7}), fold.New(api.View{})} {
		for _, v := range []api.View{{Add: 7}, {Add: 15}, {Add: 31}, {Add: 3, Del: 4}, {Add: 63, Del: 63}} {
			for _, q := range everyQuestion(v) {
				recs, a, ok := Serve(2, s, q)
				later := applied(s, recs)
				for cut := range recs {
					rest, again, okAgain := Serve(2, applied(s, recs[:cut]), q)
					if !okAgain || !sameRecs(rest, recs[cut:]) || !sameMsg(again, a) {
						t.Fatalf("%v behind %v: %v, %v, %v", q, recs[:cut], rest, again, okAgain)
					}
				}
				for i := range q.Cells {
					isWritten(t, later, putCells(v, q.Cells[i]))
					isWritten(t, later, putCells(v, q.Cells[:i]...))
					isWritten(t, later, putCells(v, cell(q.Cells[i].Node, 63, 63)))
				}
				for i, e := range q.Book {
					isWritten(t, later, putBook(v, e))
					isWritten(t, later, putBook(v, q.Book[:i]...))
					isWritten(t, later, putBook(v, entry(e.Key, 1, 0, 9)))
				}
				if ok {
					allPut(t, 2, s, later, q, a)
				}
			}
		}
	}
}

// isWritten tells whether nothing of a question is to be written any more.
func isWritten(t *testing.T, s api.State, q api.Msg) {
	t.Helper()
	if recs, _, ok := Serve(2, s, q); !ok || len(recs) != 0 {
		t.Fatalf("%v writes %v where it is written", q, recs)
	}
}

// P13.1 and P13.2: random questions of states that random logs lead to, with much and with little.
func TestServeRandom(t *testing.T) {
	r := rand.New(rand.NewSource(131))
	for range 4000 {
		first, l, few := randomLog(r)
		s, k := fold.Of(first, l), keep(first, l...)
		few = append(few, api.View{Add: r.Intn(64), Del: r.Intn(64)})
		for range 6 {
			me := r.Intn(6)
			serves(t, me, s, k, someQuestion(r, me, few))
		}
	}
}

// P13.1 and P13.2: random runs of questions, in which all that is to be written is.
func TestServeRuns(t *testing.T) {
	r := rand.New(rand.NewSource(132))
	for range 500 {
		few := someViews(r)
		first, me := few[0], r.Intn(6)
		s, k := fold.New(first), keep(first)
		var whole []api.Rec
		for range 40 {
			q := someQuestion(r, me, few)
			var recs []api.Rec
			if s, recs = serves(t, me, s, k, q); q.Kind == api.AskCells || q.Kind == api.AskBook {
				if len(recs) != 0 {
					t.Fatalf("%v writes %v", q, recs)
				}
			}
			for _, rec := range recs {
				k.take(rec)
			}
			whole = append(whole, recs...)
		}
		if !fold.Same(s, fold.Of(first, whole)) || s.Held != k.held || s.Inc != 0 || s.Last != 0 || len(s.Intents) != 0 {
			t.Fatalf("%v leads to %v", whole, s)
		}
		for _, v := range few {
			if !sameEntries(fold.Book(s, v), k.entries(v)) || !slices.Equal(fold.Cells(s, v), k.cells(v)) {
				t.Fatalf("%v has of %v %v and %v", s, v, k.entries(v), k.cells(v))
			}
		}
	}
}

// P2: a question is answered the same twice, whatever was asked between.
func TestServeTwice(t *testing.T) {
	r := rand.New(rand.NewSource(133))
	for range 1000 {
		first, l, few := randomLog(r)
		s, me := fold.Of(first, l), r.Intn(6)
		q := someQuestion(r, me, few)
		recs, a, ok := Serve(me, s, q)
		Serve(me, s, someQuestion(r, me, few))
		Serve((me+1)%6, fold.New(first), someQuestion(r, (me+1)%6, few))
		recsAgain, again, okAgain := Serve(me, s, q)
		if ok != okAgain || !sameRecs(recs, recsAgain) || !sameMsg(a, again) {
			t.Fatalf("Serve(%d, %v, %v) = %v, %v, %v, and then %v, %v, %v", me, s, q, recs, a, ok, recsAgain, again, okAgain)
		}
	}
}

// DOC.md, Rules: a list that is nil and one that is empty are one.
func TestNoLists(t *testing.T) {
	first := api.View{Add: 3}
	for set := range 8 {
		s := fold.New(first)
		if set&1 != 0 {
			s.Books = []api.ViewBook{}
		}
		if set&2 != 0 {
			s.Cells = make([]api.ViewCells, 0, 3)
		}
		if set&4 != 0 {
			s.Intents = []api.ViewIntent{}
		}
		for _, v := range []api.View{first, {}, {Add: 7}} {
			for _, q := range everyQuestion(v) {
				serves(t, 2, s, keep(first), q)
				if len(q.Cells) == 0 {
					q.Cells = []api.Cell{}
				}
				if len(q.Book) == 0 {
					q.Book = make([]api.Entry, 0, 5)
				}
				serves(t, 2, s, keep(first), q)
			}
		}
	}
}

// roomy answers a copy of a list with spare room, which is filled.
func roomy[T any](l []T, fill T) []T {
	all := append(append(make([]T, 0, len(l)+3), l...), fill, fill, fill)
	return all[:len(l)]
}

// spoil writes over all of a list, spare room included.
func spoil[T any](l []T, fill T) {
	for i := range l[:cap(l)] {
		l[:cap(l)][i] = fill
	}
}

// roomyState answers a copy of a state whose lists have spare room, which is filled.
func roomyState(s api.State) api.State {
	s.Books = roomy(s.Books, api.ViewBook{View: api.View{Add: 9, Del: 9}})
	for i, b := range s.Books {
		s.Books[i].Book = roomy(b.Book, entry(9, 9, 9, 9))
	}
	s.Cells = roomy(s.Cells, api.ViewCells{View: api.View{Add: 9, Del: 9}})
	for i, c := range s.Cells {
		s.Cells[i].Cells = roomy(c.Cells, cell(9, 9, 9))
	}
	s.Intents = roomy(s.Intents, api.ViewIntent{View: api.View{Add: 9, Del: 9}})
	return s
}

// roomyMsg answers a copy of a message whose lists have spare room, which is filled.
func roomyMsg(m api.Msg) api.Msg {
	m.Cells, m.Book = roomy(m.Cells, cell(9, 9, 9)), roomy(m.Book, entry(9, 9, 9, 9))
	return m
}

// stateWithRoom answers a copy of a state in which each list ends where its spare room does.
func stateWithRoom(s api.State) api.State {
	s.Books = slices.Clone(s.Books[:cap(s.Books)])
	for i, b := range s.Books {
		s.Books[i].Book = slices.Clone(b.Book[:cap(b.Book)])
	}
	s.Cells = slices.Clone(s.Cells[:cap(s.Cells)])
	for i, c := range s.Cells {
		s.Cells[i].Cells = slices.Clone(c.Cells[:cap(c.Cells)])
	}
	s.Intents = slices.Clone(s.Intents[:cap(s.Intents)])
	return s
}

// msgWithRoom answers a copy of a message in which each list ends where its spare room does.
func msgWithRoom(m api.Msg) api.Msg {
	m.Cells, m.Book = slices.Clone(m.Cells[:cap(m.Cells)]), slices.Clone(m.Book[:cap(m.Book)])
	return m
}

// spoilState writes over all lists of a state, spare room included.
func spoilState(s api.State) {
	for _, b := range s.Books[:cap(s.Books)] {
		spoil(b.Book, entry(8, 8, 8, 8))
	}
	for _, c := range s.Cells[:cap(s.Cells)] {
		spoil(c.Cells, cell(8, 8, 8))
	}
	spoil(s.Books, api.ViewBook{View: api.View{Add: 8, Del: 8}})
	spoil(s.Cells, api.ViewCells{View: api.View{Add: 8, Del: 8}})
	spoil(s.Intents, api.ViewIntent{View: api.View{Add: 8, Del: 8}})
}

// spoilAnswer writes over all lists that Serve answered, spare room included.
func spoilAnswer(recs []api.Rec, a api.Msg) {
	spoil(recs, api.Rec{Kind: 8})
	spoil(a.Cells, cell(7, 7, 7))
	spoil(a.Book, entry(7, 7, 7, 7))
}

// memoryCases calls do with states and with questions of each kind, all lists of which have spare room.
func memoryCases(do func(s api.State, q api.Msg)) {
	some, _ := someState()
	for _, s := range []api.State{some, fold.New(api.View{Add: 7}), fold.New(api.View{})} {
		for _, v := range []api.View{{Add: 7}, {Add: 7, Del: 1}, {Add: 15}, {Add: 31}, {Add: 1, Del: 62}} {
			for _, m := range append(everyQuestion(v), everyKind(v)...) {
				do(roomyState(s), roomyMsg(m))
				m.To = 3
				do(roomyState(s), roomyMsg(m))
			}
		}
	}
	r := rand.New(rand.NewSource(134))
	for range 2000 {
		first, l, few := randomLog(r)
		do(roomyState(fold.Of(first, l)), roomyMsg(someQuestion(r, 2, few)))
	}
}

// DOC.md, Rules: what is handed in stays as it is, spare room too.
func TestArgumentsStay(t *testing.T) {
	memoryCases(func(s api.State, q api.Msg) {
		was, wasRoom, wasMsg, wasMsgRoom := keptState(s), stateWithRoom(s), keptMsg(q), msgWithRoom(q)
		Serve(2, s, q)
		if !sameState(s, was) || !sameState(stateWithRoom(s), wasRoom) || !sameMsg(q, wasMsg) || !sameMsg(msgWithRoom(q), wasMsgRoom) {
			t.Fatalf("Serve(2, %v, %v) has changed what was handed in to %v, %v", was, wasMsg, s, q)
		}
	})
}

// DOC.md, Rules: what is handed in isn't kept, and no list of what is answered, spare room too, is in what came in.
func TestAnswersOwn(t *testing.T) {
	memoryCases(func(s api.State, q api.Msg) {
		was, wasRoom, wasMsg, wasMsgRoom := keptState(s), stateWithRoom(s), keptMsg(q), msgWithRoom(q)
		// Copies: were these in memory that is kept, they would change with what they are held against.
		wantRecs, want, _ := Serve(2, was, wasMsg)
		wantRecs, want = slices.Clone(wantRecs), keptMsg(want)
		recs, a, _ := Serve(2, s, q)
		room, answerRoom := slices.Clone(recs[:cap(recs)]), msgWithRoom(a)
		spoilState(s)
		spoil(q.Cells, cell(8, 8, 8))
		spoil(q.Book, entry(8, 8, 8, 8))
		if !sameRecs(recs, wantRecs) || !sameMsg(a, want) || !sameRecs(recs[:cap(recs)], room) || !sameMsg(msgWithRoom(a), answerRoom) {
			t.Fatalf("what was handed in, %v and %v, was written over, and the answer became %v, %v", was, wasMsg, recs, a)
		}
		s, q = roomyState(was), roomyMsg(wasMsg)
		recs, a, _ = Serve(2, s, q)
		recsAgain, again, _ := Serve(2, s, q)
		spoilAnswer(recs, a)
		if !sameState(s, was) || !sameState(stateWithRoom(s), wasRoom) || !sameMsg(q, wasMsg) || !sameMsg(msgWithRoom(q), wasMsgRoom) {
			t.Fatalf("an answer was written over, and what was handed in became %v, %v", s, q)
		}
		if !sameRecs(recsAgain, wantRecs) || !sameMsg(again, want) {
			t.Fatalf("an answer was written over, and another one became %v, %v", recsAgain, again)
		}
		if recs, a, _ = Serve(2, s, q); !sameRecs(recs, wantRecs) || !sameMsg(a, want) {
			t.Fatalf("an answer was written over, and the next one is %v, %v", recs, a)
		}
	})
}

// anyNumber answers numbers of all sizes, small ones often.
func anyNumber(r *rand.Rand) int {
	switch r.Intn(6) {
	case 0:
		return farNumbers()[r.Intn(len(farNumbers()))]
	case 1:
		return int(r.Uint64())
	}
	return r.Intn(9) - 1
}

// anyView answers what may be a set and may be none.
func anyView(r *rand.Rand) api.View { return api.View{Add: anyNumber(r), Del: anyNumber(r)} }

// anyEntries answers what may be a book and may be none.
func anyEntries(r *rand.Rand) []api.Entry {
	var l []api.Entry
	for range r.Intn(8) {
		l = append(l, entry(anyNumber(r), anyNumber(r), anyNumber(r), math.Float64frombits(r.Uint64())))
	}
	return l
}

// anyCells answers what may be cells and may be none.
func anyCells(r *rand.Rand) []api.Cell {
	var l []api.Cell
	for range r.Intn(8) {
		l = append(l, api.Cell{Node: anyNumber(r), Change: anyView(r)})
	}
	return l
}

// anyState answers what may be a State and may be none: lists in no order, views twice, nothing in them, or too much.
func anyState(r *rand.Rand) api.State {
	s := api.State{Held: anyView(r), Inc: anyNumber(r), Last: anyNumber(r)}
	for range r.Intn(6) {
		s.Books = append(s.Books, api.ViewBook{View: anyView(r), Book: anyEntries(r)})
		s.Cells = append(s.Cells, api.ViewCells{View: anyView(r), Cells: anyCells(r)})
		s.Intents = append(s.Intents, api.ViewIntent{View: anyView(r), Change: anyView(r)})
	}
	return s
}

// anyMsg answers what may be a message and may be none.
func anyMsg(r *rand.Rand) api.Msg {
	m := api.Msg{Kind: anyNumber(r), From: anyNumber(r), To: anyNumber(r), Inc: anyNumber(r), Seq: anyNumber(r), View: anyView(r)}
	m.Cells, m.Book = anyCells(r), anyEntries(r)
	return m
}

// ends makes a call, and fails if what is handed in has changed, the same call is answered otherwise, or there is
// anything beside false.
func ends(t *testing.T, me int, s api.State, q api.Msg) {
	t.Helper()
	was, wasMsg := keptState(s), keptMsg(q)
	recs, a, ok := Serve(me, s, q)
	recsAgain, again, okAgain := Serve(me, s, q)
	if ok != okAgain || !sameRecs(recs, recsAgain) || !sameMsg(a, again) {
		t.Fatalf("Serve(%d, %.600v, %.600v) answers two things", me, fmt.Sprint(s), fmt.Sprint(q))
	}
	if !ok && (len(recs) != 0 || !sameMsg(a, api.Msg{})) {
		t.Fatalf("Serve(%d, %.600v, %.600v) is false and %v, %v", me, fmt.Sprint(s), fmt.Sprint(q), recs, a)
	}
	if !sameState(s, was) || !sameMsg(q, wasMsg) {
		t.Fatalf("Serve(%d, %.600v, %.600v) has changed what was handed in", me, fmt.Sprint(was), fmt.Sprint(wasMsg))
	}
}

// P1 and P2: any me, any states, any messages: every call ends, and twice with the same answer.
func TestAnyArguments(t *testing.T) {
	r := rand.New(rand.NewSource(135))
	some, _ := someState()
	for range 60000 {
		s, q, me := anyState(r), anyMsg(r), anyNumber(r)
		ends(t, me, s, q)
		// So that all kinds are gone through: a To that is me, a kind of a question, a view that is there.
		q.To, q.Kind = me, r.Intn(5)
		ends(t, me, s, q)
		ends(t, me, some, q)
		if len(s.Books) > 0 {
			q.View = []api.View{s.Books[0].View, s.Cells[0].View, s.Held}[r.Intn(3)]
			ends(t, me, s, q)
		}
		q = someQuestion(r, 2, []api.View{{}, {Add: 7}, anyView(r)})
		ends(t, 2, s, q)
	}
}

// P1: a me that is no node, at messages that can be, and at those that are to it.
func TestWrongMe(t *testing.T) {
	s, _ := someState()
	for _, me := range append(farNumbers(), 6, 7, 8) {
		for _, m := range everyKind(api.View{Add: 31}) {
			isNothing(t, me, s, m)
			m.To = me
			ends(t, me, s, m)
		}
	}
}

// P1: messages that are wrong in one part alone.
func TestWrongMessages(t *testing.T) {
	some, _ := someState()
	for _, s := range []api.State{{}, fold.New(api.View{Add: 7}), some} {
		for _, far := range append(farNumbers(), 0, 4, 6, 7, 1000001) {
			for _, turn := range []func(m *api.Msg){
				func(m *api.Msg) { m.Kind = far }, func(m *api.Msg) { m.From = far }, func(m *api.Msg) { m.To = far },
				func(m *api.Msg) { m.Inc = far }, func(m *api.Msg) { m.Seq = far },
				func(m *api.Msg) { m.View.Add = far }, func(m *api.Msg) { m.View.Del = far },
				func(m *api.Msg) { m.Cells = []api.Cell{cell(far, 1, 0), cell(3, 1, 1)} },
				func(m *api.Msg) { m.Cells = []api.Cell{cell(3, far, 0), cell(3, 0, far), cell(1, 1, 1)} },
				func(m *api.Msg) { m.Book = []api.Entry{entry(far, 1, 0, 1), entry(1, 3, 3, 1)} },
				func(m *api.Msg) { m.Book = []api.Entry{entry(1, far, 0, 1), entry(1, 3, far, 1), entry(0, 1, 1, 1)} },
			} {
				for _, m := range everyKind(api.View{Add: 7}) {
					turn(&m)
					ends(t, 2, s, m)
					ends(t, m.To, s, m)
				}
			}
		}
	}
}

// P1: states and messages with long lists come to an end soon.
func TestLongListsEnd(t *testing.T) {
	var s api.State
	r := rand.New(rand.NewSource(136))
	for i := range 200000 {
		v := api.View{Add: r.Int(), Del: -i}
		s.Books = append(s.Books, api.ViewBook{View: v, Book: []api.Entry{entry(i, i, i, math.NaN())}})
		s.Cells = append(s.Cells, api.ViewCells{View: v, Cells: []api.Cell{cell(i, i, i)}})
		s.Intents = append(s.Intents, api.ViewIntent{View: v})
	}
	wide := api.State{Books: []api.ViewBook{{Book: make([]api.Entry, 1000000)}}, Cells: []api.ViewCells{{Cells: make([]api.Cell, 1000000)}}}
	for kind := range 9 {
		q := asked(kind, api.View{})
		ends(t, 2, s, q)
		ends(t, 2, wide, q)
		q.Cells, q.Book = make([]api.Cell, 1000000), make([]api.Entry, 1000000)
		for i := range q.Cells {
			q.Cells[i], q.Book[i] = cell(i, i, i), entry(i, i, i, 1)
		}
		ends(t, 2, s, q)
		ends(t, 2, wide, q)
		slices.Reverse(q.Cells)
		slices.Reverse(q.Book)
		ends(t, 2, fold.New(api.View{}), q)
	}
}
