package book

import (
	"math"
	"math/rand"
	"slices"
	"testing"

	"ropeway/api"
)

// entry answers an entry in few words.
func entry(key, number, node int, value float64) api.Entry {
	return api.Entry{Key: key, Tag: api.Tag{Num: number, Node: node}, Value: value}
}

// minusZero answers the zero below 0.
func minusZero() float64 { return math.Copysign(0, -1) }

// otherNan answers what is not a number by other bits than math.NaN's.
func otherNan() float64 { return math.Float64frombits(0xFFF0000000000123) }

// oddValues lists values, no two of them the same.
func oddValues() []float64 {
	return []float64{0, minusZero(), math.NaN(), math.Inf(1), math.Inf(-1), 1, -1, 0.1,
		math.MaxFloat64, math.SmallestNonzeroFloat64, -math.SmallestNonzeroFloat64}
}

// wrongKeys lists numbers that are no key.
func wrongKeys() []int {
	return []int{-1, -2, -3, -4, -5, -64, -256, 4, 5, 6, 7, 8, 63, 64, 255, 256, 1 << 31, 1 << 32, 1<<32 + 1, 1<<32 + 3,
		1 << 62, math.MinInt, math.MinInt + 1, math.MinInt + 3, math.MaxInt, math.MaxInt - 1, -1 << 31, -1 << 32, -1<<32 + 2}
}

// wrongTags lists tags that no entry of a BOOK has.
func wrongTags() []api.Tag {
	l := []api.Tag{{}, {Node: 1}, {Node: 5}, {Node: -1}, {Node: 6}}
	for _, number := range []int{-1, -2, -1000000, 1000001, 1000002, 1 << 31, 1 << 32, 1<<32 + 1, -1 << 32, math.MinInt, math.MinInt + 1, math.MaxInt} {
		l = append(l, api.Tag{Num: number}, api.Tag{Num: number, Node: 3}, api.Tag{Num: number, Node: 6})
	}
	for _, node := range []int{-1, -6, 6, 7, 64, 1 << 32, math.MinInt, math.MaxInt} {
		l = append(l, api.Tag{Num: 1, Node: node}, api.Tag{Num: 500, Node: node}, api.Tag{Num: 1000000, Node: node})
	}
	return l
}

// risingTags lists tags that a BOOK may have, each of them older than all behind it.
func risingTags() []api.Tag {
	return []api.Tag{{Num: 1}, {Num: 1, Node: 5}, {Num: 2}, {Num: 1000000, Node: 4}}
}

// pages is a BOOK as the tests reckon with it: of each key the place of its tag among risingTags, or -1.
type pages [api.MaxKeys]int

// allPages lists all of them that there are.
func allPages() []pages {
	l := []pages{{}}
	for key := range api.MaxKeys {
		var longer []pages
		for _, p := range l {
			for place := -1; place < len(risingTags()); place++ {
				p[key] = place
				longer = append(longer, p)
			}
		}
		l = longer
	}
	return l
}

// list answers the BOOK of some pages; its values tell of which list, key and tag they are.
func (p pages) list(from float64) []api.Entry {
	var l []api.Entry
	for key, place := range p {
		if place >= 0 {
			l = append(l, api.Entry{Key: key, Tag: risingTags()[place], Value: from + float64(10*key+place)})
		}
	}
	return l
}

// wrongBooks lists what are no BOOKS.
func wrongBooks() [][]api.Entry {
	l := [][]api.Entry{
		{entry(0, 1, 0, 0), entry(0, 1, 0, 0)},
		{entry(1, 1, 0, 0), entry(1, 2, 0, 0)},
		{entry(3, 2, 0, 0), entry(3, 1, 0, 0)},
		{entry(1, 1, 0, 0), entry(0, 1, 0, 0)},
		{entry(3, 1, 0, 0), entry(2, 2, 0, 0), entry(1, 3, 0, 0), entry(0, 4, 0, 0)},
		{entry(0, 1, 0, 0), entry(2, 1, 0, 0), entry(1, 1, 0, 0)},
		{entry(0, 1, 0, 0), entry(2, 1, 0, 0), entry(0, 1, 0, 0)},
		{entry(0, 1, 0, 0), entry(1, 1, 0, 0), entry(2, 1, 0, 0), entry(3, 1, 0, 0), entry(3, 2, 0, 0)},
		{entry(0, 1, 0, 0), entry(1, 1, 0, 0), entry(2, 1, 0, 0), entry(3, 1, 0, 0), entry(4, 1, 0, 0)},
		{entry(-1, 1, 0, 0), entry(0, 1, 0, 0), entry(1, 1, 0, 0), entry(2, 1, 0, 0), entry(3, 1, 0, 0)},
		slices.Repeat([]api.Entry{entry(2, 9, 1, math.NaN())}, 20000),
		slices.Repeat([]api.Entry{entry(9, 9, 9, 9)}, 20000),
	}
	for _, key := range wrongKeys() {
		l = append(l, []api.Entry{entry(key, 1, 0, 1)}, []api.Entry{entry(1, 1, 0, 1), entry(key, 1, 0, 1)},
			[]api.Entry{entry(key, 1, 0, 1), entry(1, 1, 0, 1)})
	}
	for _, wrong := range wrongTags() {
		for key := range api.MaxKeys {
			b := []api.Entry{entry(0, 1, 0, 0), entry(1, 2, 1, 1), entry(2, 3, 2, 2), entry(3, 4, 3, 3)}
			b[key].Tag = wrong
			l = append(l, b, []api.Entry{b[key]})
		}
	}
	return l
}

// P7.1 Check: BOOKS, the edges among them.
func TestCheckBooks(t *testing.T) {
	for i, b := range [][]api.Entry{
		nil,
		{},
		{entry(0, 1, 0, 0)},
		{entry(3, 1, 0, 0)},
		{entry(0, 1000000, 5, math.NaN())},
		{entry(3, 1000000, 0, math.Inf(-1))},
		{entry(0, 1, 5, 0), entry(3, 1, 5, 0)},
		{entry(1, 1, 0, 0), entry(2, 1, 0, 0)},
		{entry(0, 9, 5, 4), entry(1, 8, 4, 3), entry(2, 7, 3, 2), entry(3, 6, 2, 1)},
		{entry(0, 1, 0, math.NaN()), entry(1, 1, 0, minusZero()), entry(2, 1, 0, otherNan()), entry(3, 1, 0, math.Inf(1))},
	} {
		if e := Check(b); e != api.OK {
			t.Errorf("%d: Check(%v) = %d", i, b, e)
		}
	}
	for _, p := range allPages() {
		if e := Check(p.list(0)); e != api.OK {
			t.Fatalf("Check(%v) = %d", p.list(0), e)
		}
	}
}

// P7.1 Check: what are no BOOKS.
func TestCheckWrong(t *testing.T) {
	if api.ErrBook != 71 || api.MaxKeys != 4 {
		t.Fatal("the error's number, or how many keys there are")
	}
	for _, b := range wrongBooks() {
		if e := Check(b); e != 71 {
			t.Errorf("Check(%v) = %d", b[:min(len(b), 6)], e)
		}
	}
}

// P7.1 Check: every order of keys, right and wrong ones, up to five of them.
func TestCheckEveryOrder(t *testing.T) {
	var grow func(b []api.Entry, rises bool)
	grow = func(b []api.Entry, rises bool) {
		want := api.OK
		if !rises {
			want = api.ErrBook
		}
		if e := Check(b); e != want {
			t.Fatalf("Check(%v) = %d", b, e)
		}
		if len(b) == 5 {
			return
		}
		for key := -1; key <= 4; key++ {
			behind := len(b) == 0 || b[len(b)-1].Key < key
			grow(append(slices.Clone(b), entry(key, 2, 1, 3)), rises && behind && key >= 0 && key <= 3)
		}
	}
	grow(nil, true)
}

// P7.1 Check: every Num there is, and a few beside them.
func TestCheckEveryNum(t *testing.T) {
	for number := -1000; number <= 1001000; number++ {
		b := []api.Entry{entry(2, number, (number+6000)%6, 0)}
		want := api.OK
		if number < 1 || number > 1000000 {
			want = api.ErrBook
		}
		if e := Check(b); e != want {
			t.Fatalf("Check(%v) = %d", b, e)
		}
	}
}

// P7.1 Get: the entry, whole, or one with a zero tag and 0.
func TestGetKnown(t *testing.T) {
	b := []api.Entry{entry(0, 1, 5, minusZero()), entry(1, 1000000, 0, math.NaN()), entry(3, 7, 2, -8)}
	for key, want := range []api.Entry{b[0], b[1], {Key: 2}, b[2]} {
		got, e := Get(b, key)
		if e != api.OK || !Same([]api.Entry{got}, []api.Entry{want}) {
			t.Errorf("Get of %d = %v, %d", key, got, e)
		}
	}
	if got, _ := Get(b, 0); !math.Signbit(got.Value) {
		t.Error("-0 became 0")
	}
	if got, _ := Get(b, 2); math.Signbit(got.Value) {
		t.Error("nothing yet is -0")
	}
	for key := range 4 {
		for _, none := range [][]api.Entry{nil, {}} {
			if got, e := Get(none, key); e != api.OK || got != (api.Entry{Key: key}) {
				t.Errorf("Get of %d in none = %v, %d", key, got, e)
			}
		}
	}
}

// P7.1 Get: every key of all BOOKS.
func TestGetEveryBook(t *testing.T) {
	for _, p := range allPages() {
		b := p.list(100)
		for key, place := range p {
			want := api.Entry{Key: key}
			if place >= 0 {
				want.Tag, want.Value = risingTags()[place], 100+float64(10*key+place)
			}
			if got, e := Get(b, key); e != api.OK || got != want {
				t.Fatalf("Get(%v, %d) = %v, %d", b, key, got, e)
			}
		}
	}
}

// P7.1 Get: what is no key, whether such an entry is there or not.
func TestGetWrongKey(t *testing.T) {
	whole := []api.Entry{entry(0, 1, 0, 1), entry(1, 1, 0, 2), entry(2, 1, 0, 3), entry(3, 1, 0, 4)}
	for _, key := range wrongKeys() {
		for _, b := range [][]api.Entry{nil, {}, whole, whole[:1], {entry(key, 1, 0, 5)}} {
			if got, e := Get(b, key); e != api.ErrBook || got != (api.Entry{}) {
				t.Errorf("Get(%v, %d) = %v, %d", b, key, got, e)
			}
		}
	}
}

// P7.1 Same: values are held against each other as layer 1 does.
func TestSameValues(t *testing.T) {
	for i, x := range oddValues() {
		for k, y := range oddValues() {
			a, b := []api.Entry{entry(1, 2, 3, 4), entry(2, 2, 3, x)}, []api.Entry{entry(1, 2, 3, 4), entry(2, 2, 3, y)}
			if Same(a, b) != (i == k) || Same(a[1:], b[1:]) != (i == k) {
				t.Errorf("Same of %v and %v = %v", x, y, i != k)
			}
		}
	}
	if !Same([]api.Entry{entry(0, 1, 0, math.NaN())}, []api.Entry{entry(0, 1, 0, otherNan())}) {
		t.Error("two that are not a number")
	}
}

// P7.1 Same: one thing that is unlike, wherever it is, is enough; BOOKS or not.
func TestSameUnlike(t *testing.T) {
	for _, b := range append(wrongBooks(), pages{0, 1, 2, 3}.list(0), pages{-1, 3, -1, 0}.list(0)) {
		if len(b) > 10 {
			b = b[:10]
		}
		if !Same(b, slices.Clone(b)) || Same(b, b[1:]) || Same(b[1:], b) || Same(b, b[:len(b)-1]) || Same(b[:len(b)-1], b) {
			t.Errorf("%v and itself, and less of it", b)
		}
		for i := range b {
			for _, turn := range []func(e *api.Entry){
				func(e *api.Entry) { e.Key++ },
				func(e *api.Entry) { e.Tag.Num++ },
				func(e *api.Entry) { e.Tag.Node++ },
				func(e *api.Entry) { e.Value = 77 },
			} {
				other := slices.Clone(b)
				turn(&other[i])
				if Same(b, other) || Same(other, b) {
					t.Errorf("%v and %v", b, other)
				}
			}
		}
	}
}

// P7.1 Same: one by one: none, another order, doubled ones, and all BOOKS in pairs.
func TestSameLists(t *testing.T) {
	x, y := entry(0, 1, 0, 1), entry(1, 1, 0, 1)
	for i, c := range []struct {
		a, b []api.Entry
		want bool
	}{
		{nil, nil, true}, {nil, []api.Entry{}, true}, {[]api.Entry{}, nil, true}, {[]api.Entry{}, []api.Entry{}, true},
		{nil, []api.Entry{{}}, false}, {[]api.Entry{{}}, nil, false}, {[]api.Entry{{}}, []api.Entry{{}}, true},
		{[]api.Entry{x, y}, []api.Entry{x, y}, true}, {[]api.Entry{x, y}, []api.Entry{y, x}, false},
		{[]api.Entry{x, x, y}, []api.Entry{x, y, y}, false}, {[]api.Entry{x, x}, []api.Entry{x}, false},
	} {
		if Same(c.a, c.b) != c.want {
			t.Errorf("%d: Same(%v, %v) = %v", i, c.a, c.b, !c.want)
		}
	}
	for _, p := range allPages() {
		a := p.list(0)
		for _, q := range allPages() {
			if Same(a, q.list(0)) != (p == q) {
				t.Fatalf("Same(%v, %v) = %v", a, q.list(0), p != q)
			}
		}
	}
}

// P7.2 Merge, News and Within: known ones, the chapter's example first.
func TestTwoKnown(t *testing.T) {
	third, fourth := entry(1, 3, 0, 30), entry(1, 4, 0, 40)
	low, high := entry(1, 3, 2, math.NaN()), entry(1, 3, 4, minusZero())
	first, last := entry(0, 1, 0, 1), entry(3, 1000000, 5, 2)
	for i, c := range []struct {
		a, b, merged, news []api.Entry
		within             bool
	}{
		{[]api.Entry{third}, []api.Entry{fourth}, []api.Entry{fourth}, []api.Entry{fourth}, true},
		{[]api.Entry{fourth}, []api.Entry{third}, []api.Entry{fourth}, nil, false},
		{[]api.Entry{low}, []api.Entry{high}, []api.Entry{high}, []api.Entry{high}, true},
		{[]api.Entry{high}, []api.Entry{low}, []api.Entry{high}, nil, false},
		{[]api.Entry{high}, []api.Entry{fourth}, []api.Entry{fourth}, []api.Entry{fourth}, true},
		{nil, nil, nil, nil, true},
		{nil, []api.Entry{first}, []api.Entry{first}, []api.Entry{first}, true},
		{[]api.Entry{first}, nil, []api.Entry{first}, nil, false},
		{[]api.Entry{}, []api.Entry{last}, []api.Entry{last}, []api.Entry{last}, true},
		{[]api.Entry{last}, []api.Entry{}, []api.Entry{last}, nil, false},
		{[]api.Entry{last}, []api.Entry{first}, []api.Entry{first, last}, []api.Entry{first}, false},
		{[]api.Entry{first}, []api.Entry{last}, []api.Entry{first, last}, []api.Entry{last}, false},
		{[]api.Entry{first, last}, []api.Entry{fourth}, []api.Entry{first, fourth, last}, []api.Entry{fourth}, false},
		{[]api.Entry{first, third, last}, []api.Entry{first, fourth, last}, []api.Entry{first, fourth, last}, []api.Entry{fourth}, true},
	} {
		if m := Merge(c.a, c.b); !Same(m, c.merged) {
			t.Errorf("%d: Merge(%v, %v) = %v", i, c.a, c.b, m)
		}
		if n := News(c.a, c.b); !Same(n, c.news) {
			t.Errorf("%d: News(%v, %v) = %v", i, c.a, c.b, n)
		}
		if Within(c.a, c.b) != c.within {
			t.Errorf("%d: Within(%v, %v) = %v", i, c.a, c.b, !c.within)
		}
	}
}

// P7.2 Merge: of the same tag with unlike values a's is taken; it is no news, and each is within the other.
func TestTwoOfTheSameTag(t *testing.T) {
	for _, x := range oddValues() {
		for _, y := range oddValues() {
			for key := range 4 {
				a, b := []api.Entry{entry(key, 6, 1, x)}, []api.Entry{entry(key, 6, 1, y)}
				if m := Merge(a, b); !Same(m, a) {
					t.Errorf("Merge(%v, %v) = %v", a, b, m)
				}
				if n := News(a, b); len(n) != 0 || !Within(a, b) || !Within(b, a) {
					t.Errorf("News(%v, %v) = %v", a, b, n)
				}
			}
		}
	}
}

// P7.2: all BOOKS of four tags, each with each.
func TestTwoOfEveryBook(t *testing.T) {
	all := allPages()
	for _, p := range all {
		a := p.list(1000)
		for _, q := range all {
			b := q.list(2000)
			var merged, news []api.Entry
			within := true
			for key := range p {
				one, other := pages{-1, -1, -1, -1}, pages{-1, -1, -1, -1}
				one[key], other[key] = p[key], q[key]
				if q[key] > p[key] {
					merged = append(merged, other.list(2000)...)
					news = append(news, other.list(2000)...)
				} else {
					merged = append(merged, one.list(1000)...)
				}
				within = within && p[key] <= q[key]
			}
			if m := Merge(a, b); !slices.Equal(m, merged) {
				t.Fatalf("Merge(%v, %v) = %v", a, b, m)
			}
			if n := News(a, b); !slices.Equal(n, news) {
				t.Fatalf("News(%v, %v) = %v", a, b, n)
			}
			if Within(a, b) != within {
				t.Fatalf("Within(%v, %v) = %v", a, b, !within)
			}
		}
	}
}

// someBook answers a BOOK with tags and values out of few, so that the same ones come often.
func someBook(r *rand.Rand) []api.Entry {
	var b []api.Entry
	for key := range 4 {
		if r.Intn(3) > 0 {
			b = append(b, entry(key, 1+r.Intn(4), r.Intn(6), oddValues()[r.Intn(len(oddValues()))]))
		}
	}
	return b
}

// P7.2: what holds of BOOKS, whatever is in them.
func TestTwoHoldTogether(t *testing.T) {
	r := rand.New(rand.NewSource(72))
	for range 20000 {
		a, b := someBook(r), someBook(r)
		merged, news := Merge(a, b), News(a, b)
		if Check(merged) != api.OK || Check(news) != api.OK {
			t.Fatalf("of %v and %v come %v and %v, which are no BOOKS", a, b, merged, news)
		}
		if !Within(a, merged) || !Within(b, merged) || !Within(news, b) || !Within(a, a) {
			t.Fatalf("%v or %v is not within %v", a, b, merged)
		}
		if !Same(Merge(a, news), merged) || !Same(Merge(a, a), a) || !Same(Merge(merged, b), merged) {
			t.Fatalf("Merge(%v, %v) = %v is not what the news %v bring", a, b, merged, news)
		}
		if Within(b, a) != (len(news) == 0) {
			t.Fatalf("News(%v, %v) = %v, and Within = %v", a, b, news, Within(b, a))
		}
		for key := range 4 {
			x, _ := Get(a, key)
			y, _ := Get(b, key)
			got, _ := Get(merged, key)
			if !Same([]api.Entry{got}, []api.Entry{x}) && !Same([]api.Entry{got}, []api.Entry{y}) {
				t.Fatalf("Merge(%v, %v) = %v has what neither of them has", a, b, merged)
			}
		}
	}
}

// P1 and P2: what are no BOOKS comes to an end, and twice to the same.
func TestWrongBooksEnd(t *testing.T) {
	l := append(wrongBooks(), nil, []api.Entry{}, pages{0, 1, 2, 3}.list(5))
	for _, a := range l {
		for _, b := range append(l[:12:12], nil, pages{0, 1, 2, 3}.list(5), pages{-1, 3, -1, 0}.list(7)) {
			for _, two := range [][2][]api.Entry{{a, b}, {b, a}} {
				x, y := two[0], two[1]
				if !Same(Merge(x, y), Merge(x, y)) || !Same(News(x, y), News(x, y)) || Within(x, y) != Within(x, y) || Same(x, y) != Same(y, x) {
					t.Fatalf("answers of lists of %d and %d changed", len(x), len(y))
				}
			}
		}
		for key := -2; key < 6; key++ {
			if _, e := Get(a, key); (e == api.OK) != (key >= 0 && key <= 3) {
				t.Errorf("Get of %d = %d", key, e)
			}
		}
	}
}

// P1: lists that are long come to an end soon, each with each.
func TestLongLists(t *testing.T) {
	long := make([]api.Entry, 1000000)
	for i := range long {
		long[i] = entry(i, i+1, i%6, float64(i))
	}
	if Check(long) != api.ErrBook || !Same(long, slices.Clone(long)) || Same(long, long[1:]) {
		t.Error("Check, or Same")
	}
	Merge(long, long)
	News(nil, long)
	News(long, long)
	Within(long, long)
	Within(long, nil)
	if got, e := Get(long, 3); e != api.OK || got != long[3] {
		t.Errorf("Get = %v, %d", got, e)
	}
}

// DOC.md, Rules: what is handed in stays as it is, spare room too, and an answer is new memory, spare room too.
func TestMemory(t *testing.T) {
	full := func(from float64) []api.Entry { return pages{0, 1, 2, 3}.list(from) }
	for aEnd := range 5 {
		for bEnd := range 5 {
			a, b := full(100), full(200)
			for _, call := range []func() []api.Entry{
				func() []api.Entry { return Merge(a[:aEnd], b[:bEnd]) },
				func() []api.Entry { return Merge(b[:bEnd], a[:aEnd]) },
				func() []api.Entry { return Merge(a[:aEnd], nil) },
				func() []api.Entry { return Merge(nil, a[:aEnd]) },
				func() []api.Entry { return News(a[:aEnd], b[:bEnd]) },
				func() []api.Entry { return News(nil, b[:bEnd]) },
			} {
				got := call()
				was := slices.Clone(got)
				again := call()
				Check(a[:aEnd])
				Same(a[:aEnd], b[:bEnd])
				Within(a[:aEnd], b[:bEnd])
				Get(a[:aEnd], 3)
				if !slices.Equal(a, full(100)) || !slices.Equal(b, full(200)) {
					t.Fatalf("arguments became %v and %v", a, b)
				}
				clear(again[:cap(again)])
				if !slices.Equal(a, full(100)) || !slices.Equal(b, full(200)) || !slices.Equal(got, was) {
					t.Fatal("an answer shares memory with an argument, or with another answer")
				}
				clear(a)
				clear(b)
				if !slices.Equal(got, was) {
					t.Fatal("an argument is kept in an answer")
				}
				copy(a, full(100))
				copy(b, full(200))
			}
		}
	}
}
