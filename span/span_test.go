package span_test

import (
	"math"
	"math/rand"
	"slices"
	"testing"

	"wharfage/api"
	"wharfage/span"
)

// top is the place behind the last one that a span can have.
const top = math.MaxUint32

// of is spans, of numbers by twos.
func of(n ...uint32) []api.Span {
	var l []api.Span
	for two := range slices.Chunk(n, 2) {
		l = append(l, api.Span{From: two[0], To: two[1]})
	}
	return l
}

func one(from, to uint32) api.Span { return api.Span{From: from, To: to} }

// same holds that an answer is spans, and that nothing failed.
func same(t *testing.T, what string, got []api.Span, e api.Errno, want []api.Span) {
	t.Helper()
	if e != api.OK || !slices.Equal(got, want) {
		t.Errorf("%s = %v, %v; not %v", what, got, e, want)
	}
}

// refused holds that Add and Cut answer ErrArg and nothing else.
func refused(t *testing.T, l []api.Span, s api.Span) {
	t.Helper()
	if got, e := span.Add(l, s); e != api.ErrArg || len(got) != 0 {
		t.Errorf("Add(%v, %v) = %v, %v", l, s, got, e)
	}
	if got, e := span.Cut(l, s); e != api.ErrArg || len(got) != 0 {
		t.Errorf("Cut(%v, %v) = %v, %v", l, s, got, e)
	}
}

// places are the numbers of the first places, each there or not.
const places = 8

// setOf tells which of the places, counted from base on, are in spans, be they such that may be or not.
func setOf(l []api.Span, base uint64) (set [places]bool) {
	for n := range set {
		at := base + uint64(n)
		set[n] = slices.ContainsFunc(l, func(p api.Span) bool { return uint64(p.From) <= at && at < uint64(p.To) })
	}
	return set
}

// runsOf tells the spans of a set, by their bounds: where a place is in it and its neighbour is not.
func runsOf(set [places]bool, base uint64) []api.Span {
	var bounds []uint32
	was := false
	for n := range places + 1 {
		is := n < places && set[n]
		if is != was {
			bounds = append(bounds, uint32(base+uint64(n)))
		}
		was = is
	}
	return of(bounds...)
}

// bitsOf tells the set of a number's bits.
func bitsOf(bits int) (set [places]bool) {
	for n := range set {
		set[n] = bits>>n&1 == 1
	}
	return set
}

// bases are where the places are counted from: the first ones, and the last ones.
func bases() []uint64 { return []uint64{0, 1, 4096, 1<<31 - 4, top - places} }

func TestExamples(t *testing.T) {
	l, e := span.Add(of(0, 4, 8, 9), one(4, 8))
	same(t, "Add", l, e, of(0, 9))
	l, e = span.Cut(of(0, 9), one(3, 5))
	same(t, "Cut", l, e, of(0, 3, 5, 9))
	if span.Has(of(0, 4), 4) {
		t.Error("Has 4")
	}
	if !span.Holds(of(0, 4, 8, 9), one(1, 3)) {
		t.Error("Holds not")
	}
	if n := span.Len(of(0, 4, 8, 9)); n != 5 {
		t.Error("Len", n)
	}
	if p := span.Pages(one(60, 70)); !slices.Equal(p, []uint32{0, 1}) {
		t.Error("Pages", p)
	}
	if l, e := span.Add(of(4, 2), one(0, 1)); e != api.ErrArg || len(l) != 0 {
		t.Error("Add", l, e)
	}
}

func TestMay(t *testing.T) {
	for _, c := range []struct {
		l   []api.Span
		may bool
	}{
		{nil, true},
		{[]api.Span{}, true},
		{of(0, 1), true},
		{of(0, top), true},
		{of(top-1, top), true},
		{of(0, 1, 2, 3, 4, 5), true},
		{of(0, 1, top-1, top), true},
		{of(0, 0), false},
		{of(5, 5), false},
		{of(top, top), false},
		{of(5, 4), false},
		{of(top, 0), false},
		{of(0, 4, 4, 5), false},
		{of(0, 4, 3, 8), false},
		{of(0, 8, 2, 4), false},
		{of(0, 4, 0, 4), false},
		{of(5, 6, 1, 2), false},
		{of(0, 4, 5, 5), false},
		{of(0, 4, 6, 5), false},
		{of(3, 3, 4, 5), false},
		{of(0, 1, 2, 3, 3, 4), false},
		{of(0, 1, 2, 3, 1, 2), false},
		{of(4, 5, 0, 1, 2, 3), false},
	} {
		if span.May(c.l) != c.may {
			t.Errorf("May(%v) is not %t", c.l, c.may)
		}
	}
}

// TestAnyList asks all of all lists of up to three spans, most of which may not be.
func TestAnyList(t *testing.T) {
	var all []api.Span
	for from := range uint32(5) {
		for to := range uint32(5) {
			all = append(all, one(from, to))
		}
	}
	lists := [][]api.Span{nil}
	for long := lists; len(long[0]) < 3; {
		var longer [][]api.Span
		for _, l := range long {
			for _, s := range all {
				longer = append(longer, append(slices.Clone(l), s))
			}
		}
		lists = append(lists, longer...)
		long = longer
	}
	for _, l := range lists {
		set := setOf(l, 0)
		may := slices.Equal(runsOf(set, 0), l)
		if span.May(l) != may {
			t.Fatalf("May(%v) is not %t", l, may)
		}
		if may {
			continue
		}
		for _, s := range []api.Span{one(0, 0), one(1, 3), one(3, 1), one(5, 9)} {
			refused(t, l, s)
			if span.Holds(l, s) {
				t.Fatalf("Holds(%v, %v)", l, s)
			}
		}
		for at := range uint32(6) {
			if span.Has(l, at) {
				t.Fatalf("Has(%v, %d)", l, at)
			}
		}
		if n := span.Len(l); n != 0 {
			t.Fatalf("Len(%v) = %d", l, n)
		}
	}
}

// TestSets asks all of each set of a few places, and of each span among them.
func TestSets(t *testing.T) {
	for _, base := range bases() {
		for bits := range 1 << places {
			set := bitsOf(bits)
			l := runsOf(set, base)
			if !span.May(l) {
				t.Fatalf("May(%v) is false", l)
			}
			holdAsks(t, l, set, base)
			for from := range places + 1 {
				for to := range places + 1 {
					holdSpan(t, l, set, base, from, to)
				}
			}
		}
	}
}

func holdAsks(t *testing.T, l []api.Span, set [places]bool, base uint64) {
	t.Helper()
	many := uint64(0)
	for n, is := range set {
		if is {
			many++
		}
		if at := uint32(base) + uint32(n); span.Has(l, at) != is {
			t.Fatalf("Has(%v, %d) is not %t", l, at, is)
		}
	}
	if n := span.Len(l); n != many {
		t.Fatalf("Len(%v) = %d", l, n)
	}
	if span.Has(l, uint32(base)+places) || base > 0 && span.Has(l, uint32(base)-1) {
		t.Fatalf("Has(%v) beside its places", l)
	}
}

func holdSpan(t *testing.T, l []api.Span, set [places]bool, base uint64, from, to int) {
	t.Helper()
	s := one(uint32(base)+uint32(from), uint32(base)+uint32(to))
	if to < from {
		refused(t, l, s)
		if span.Holds(l, s) {
			t.Fatalf("Holds(%v, %v)", l, s)
		}
		return
	}
	more, less, all := set, set, true
	for n := from; n < to; n++ {
		all = all && set[n]
		more[n], less[n] = true, false
	}
	got, e := span.Add(l, s)
	same(t, "Add", got, e, runsOf(more, base))
	got, e = span.Cut(l, s)
	same(t, "Cut", got, e, runsOf(less, base))
	if span.Holds(l, s) != all {
		t.Fatalf("Holds(%v, %v) is not %t", l, s, all)
	}
}

func TestAdd(t *testing.T) {
	for _, c := range []struct {
		l    []api.Span
		s    api.Span
		want []api.Span
	}{
		{nil, one(0, top), of(0, top)},
		{nil, one(0, 0), nil},
		{nil, one(top, top), nil},
		{of(0, top), one(5, 6), of(0, top)},
		{of(1, 2, 4, 5, 7, 8), one(0, top), of(0, top)},
		{of(1, 2, 4, 5, 7, 8), one(2, 4), of(1, 5, 7, 8)},
		{of(1, 2, 4, 5, 7, 8), one(2, 7), of(1, 8)},
		{of(1, 2, 4, 5, 7, 8), one(3, 6), of(1, 2, 3, 6, 7, 8)},
		{of(1, 2), one(top-1, top), of(1, 2, top-1, top)},
		{of(top-1, top), one(0, 1), of(0, 1, top-1, top)},
		{of(0, 9), one(5, 5), of(0, 9)},
		{of(0, 9), one(9, 9), of(0, 9)},
		{of(0, 9), one(20, 20), of(0, 9)},
	} {
		got, e := span.Add(c.l, c.s)
		same(t, "Add", got, e, c.want)
	}
}

func TestCut(t *testing.T) {
	for _, c := range []struct {
		l    []api.Span
		s    api.Span
		want []api.Span
	}{
		{nil, one(0, top), nil},
		{nil, one(0, 0), nil},
		{of(0, top), one(0, top), nil},
		{of(0, top), one(1, top-1), of(0, 1, top-1, top)},
		{of(1, 2, 4, 5, 7, 8), one(2, 7), of(1, 2, 7, 8)},
		{of(1, 3, 4, 6, 7, 9), one(2, 8), of(1, 2, 8, 9)},
		{of(1, 3, 4, 6, 7, 9), one(0, 5), of(5, 6, 7, 9)},
		{of(1, 3, 4, 6, 7, 9), one(8, top), of(1, 3, 4, 6, 7, 8)},
		{of(0, 9), one(5, 5), of(0, 9)},
		{of(0, 9), one(0, 0), of(0, 9)},
		{of(0, 9), one(20, 30), of(0, 9)},
	} {
		got, e := span.Cut(c.l, c.s)
		same(t, "Cut", got, e, c.want)
	}
}

func TestRefused(t *testing.T) {
	for _, s := range []api.Span{one(1, 0), one(9, 3), one(top, 0), one(top, top-1)} {
		for _, l := range [][]api.Span{nil, of(0, 4), of(0, top), of(4, 2)} {
			refused(t, l, s)
			if span.Holds(l, s) {
				t.Errorf("Holds(%v, %v)", l, s)
			}
		}
	}
}

func TestHas(t *testing.T) {
	for _, c := range []struct {
		l  []api.Span
		at uint32
		is bool
	}{
		{nil, 0, false},
		{of(0, 1), 0, true},
		{of(0, 1), 1, false},
		{of(2, 4, 6, 8), 1, false},
		{of(2, 4, 6, 8), 2, true},
		{of(2, 4, 6, 8), 3, true},
		{of(2, 4, 6, 8), 4, false},
		{of(2, 4, 6, 8), 6, true},
		{of(2, 4, 6, 8), 8, false},
		{of(0, top), top - 1, true},
		{of(0, top), top, false},
		{of(2, 4, 4, 8), 2, false},
	} {
		if span.Has(c.l, c.at) != c.is {
			t.Errorf("Has(%v, %d) is not %t", c.l, c.at, c.is)
		}
	}
}

func TestHolds(t *testing.T) {
	for _, c := range []struct {
		l   []api.Span
		s   api.Span
		all bool
	}{
		{nil, one(0, 0), true},
		{nil, one(top, top), true},
		{nil, one(0, 1), false},
		{of(2, 4, 6, 8), one(5, 5), true},
		{of(2, 4, 6, 8), one(2, 4), true},
		{of(2, 4, 6, 8), one(6, 8), true},
		{of(2, 4, 6, 8), one(3, 3), true},
		{of(2, 4, 6, 8), one(2, 8), false},
		{of(2, 4, 6, 8), one(1, 4), false},
		{of(2, 4, 6, 8), one(2, 5), false},
		{of(2, 4, 6, 8), one(0, top), false},
		{of(2, 4, 6, 8), one(3, 2), false},
		{of(0, top), one(0, top), true},
		{of(4, 2), one(3, 3), false},
		{of(0, 4, 4, 8), one(1, 2), false},
	} {
		if span.Holds(c.l, c.s) != c.all {
			t.Errorf("Holds(%v, %v) is not %t", c.l, c.s, c.all)
		}
	}
}

func TestLen(t *testing.T) {
	for _, c := range []struct {
		l    []api.Span
		many uint64
	}{
		{nil, 0},
		{of(7, 8), 1},
		{of(0, top), top},
		{of(0, 1<<31, 1<<31+1, top), top - 1},
		{of(0, top, 0, top), 0},
		{of(5, 4), 0},
		{of(0, 4, 4, 8), 0},
	} {
		if n := span.Len(c.l); n != c.many {
			t.Errorf("Len(%v) = %d, not %d", c.l, n, c.many)
		}
	}
}

func TestPages(t *testing.T) {
	for _, c := range []struct {
		s     api.Span
		pages []uint32
	}{
		{one(0, 1), []uint32{0}},
		{one(0, 64), []uint32{0}},
		{one(0, 65), []uint32{0, 1}},
		{one(63, 64), []uint32{0}},
		{one(63, 65), []uint32{0, 1}},
		{one(64, 65), []uint32{1}},
		{one(60, 200), []uint32{0, 1, 2, 3}},
		{one(4032, 4096), []uint32{63}},
		{one(4031, 4096), []uint32{62, 63}},
		{one(4095, 4096), []uint32{63}},
		{one(4095, 4097), nil},
		{one(4096, 4097), nil},
		{one(0, 4097), nil},
		{one(0, top), nil},
		{one(top-1, top), nil},
		{one(0, 0), nil},
		{one(64, 64), nil},
		{one(70, 70), nil},
		{one(4096, 4096), nil},
		{one(top, top), nil},
		{one(70, 60), nil},
		{one(65, 1), nil},
		{one(top, 0), nil},
		{one(top, 4096), nil},
	} {
		if p := span.Pages(c.s); !slices.Equal(p, c.pages) {
			t.Errorf("Pages(%v) = %v, not %v", c.s, p, c.pages)
		}
	}
}

// TestPagesAround asks of all spans whose ends lie around those of pages.
func TestPagesAround(t *testing.T) {
	ends := []uint32{top - 1, top}
	for n := uint32(0); n <= api.MaxFile+2*api.Page; n += api.Page {
		ends = append(ends, n-1, n, n+1)
	}
	for _, from := range ends {
		for _, to := range ends {
			var want []uint32
			for n := range uint32(api.MaxFile / api.Page) {
				if from < to && to <= api.MaxFile && from < (n+1)*api.Page && to > n*api.Page {
					want = append(want, n)
				}
			}
			if p := span.Pages(one(from, to)); !slices.Equal(p, want) {
				t.Fatalf("Pages(%d-%d) = %v, not %v", from, to, p, want)
			}
		}
	}
}

// some is spans that may be, as a generator has them, and any span.
func some(g *rand.Rand) ([]api.Span, api.Span) {
	bounds := map[uint32]bool{}
	for range g.Intn(12) {
		bounds[number(g)] = true
	}
	var n []uint32
	for b := range bounds {
		n = append(n, b)
	}
	slices.Sort(n)
	from, to := number(g), number(g)
	return of(n[:len(n)&^1]...), one(min(from, to), max(from, to))
}

// number is one of a few, or any.
func number(g *rand.Rand) uint32 {
	if g.Intn(2) == 0 {
		return g.Uint32()
	}
	return uint32(g.Intn(24)) * (top / 23)
}

// TestFollows holds what follows of spans that are sets.
func TestFollows(t *testing.T) {
	g := rand.New(rand.NewSource(12))
	for range 20000 {
		l, s := some(g)
		added, e := span.Add(l, s)
		bare, e2 := span.Cut(l, s)
		if e != api.OK || e2 != api.OK || !span.May(added) || !span.May(bare) {
			t.Fatalf("Add, Cut of %v, %v: %v, %v", l, s, e, e2)
		}
		got, e := span.Cut(added, s)
		same(t, "Cut behind Add", got, e, bare)
		got, e = span.Add(bare, s)
		same(t, "Add behind Cut", got, e, added)
		got, e = span.Add(added, s)
		same(t, "Add behind Add", got, e, added)
		got, e = span.Cut(bare, s)
		same(t, "Cut behind Cut", got, e, bare)
		if span.Len(added) != span.Len(bare)+uint64(s.To-s.From) {
			t.Fatalf("Len of %v, and of %v", added, bare)
		}
		if !span.Holds(added, s) || span.Holds(l, s) != slices.Equal(l, added) {
			t.Fatalf("Holds of %v, and of %v: %v", l, added, s)
		}
		for _, at := range []uint32{number(g), s.From, s.To, s.To - 1} {
			in := s.From <= at && at < s.To
			if span.Has(added, at) != (span.Has(l, at) || in) || span.Has(bare, at) != (span.Has(l, at) && !in) {
				t.Fatalf("Has(%d) of %v, %v", at, l, s)
			}
		}
	}
}

// TestOrder holds that of several spans the order in which they are laid doesn't count.
func TestOrder(t *testing.T) {
	g := rand.New(rand.NewSource(3))
	for range 5000 {
		l, s := some(g)
		_, other := some(g)
		a, _ := span.Add(l, s)
		a, e := span.Add(a, other)
		b, _ := span.Add(l, other)
		b, _ = span.Add(b, s)
		same(t, "Add, Add", a, e, b)
		a, _ = span.Cut(l, s)
		a, e = span.Cut(a, other)
		b, _ = span.Cut(l, other)
		b, _ = span.Cut(b, s)
		same(t, "Cut, Cut", a, e, b)
	}
}

// TestMemory holds that what is handed in stays, the room behind its end too, and that an answer shares nothing.
func TestMemory(t *testing.T) {
	for _, s := range []api.Span{one(0, 0), one(3, 3), one(2, 3), one(3, 7), one(4, 6), one(0, 20), one(30, 40)} {
		room := of(2, 4, 6, 8, 100, 101, 102, 103, 104, 105)
		was := slices.Clone(room)
		l := room[:2]
		span.May(l)
		span.Has(l, 3)
		span.Holds(l, s)
		span.Len(l)
		added, _ := span.Add(l, s)
		again, _ := span.Add(l, s)
		bare, _ := span.Cut(l, s)
		bareAgain, _ := span.Cut(l, s)
		wantAdded, wantBare := slices.Clone(again), slices.Clone(bareAgain)
		spoil(added)
		spoil(bare)
		if !slices.Equal(room, was) {
			t.Errorf("%v: what was handed in is %v", s, room)
		}
		if !slices.Equal(again, wantAdded) || !slices.Equal(bareAgain, wantBare) {
			t.Errorf("%v: two answers share memory", s)
		}
		for i := range room {
			room[i] = one(9, 9)
		}
		if !slices.Equal(again, wantAdded) || !slices.Equal(bareAgain, wantBare) {
			t.Errorf("%v: an answer shares memory with what was handed in", s)
		}
	}
	a, b := span.Pages(one(60, 200)), span.Pages(one(60, 200))
	for i := range a[:cap(a)] {
		a[:cap(a)][i] = 99
	}
	if !slices.Equal(b, []uint32{0, 1, 2, 3}) {
		t.Error("two lists of pages share memory")
	}
}

// spoil writes over a list and the room behind its end.
func spoil(l []api.Span) {
	l = l[:cap(l)]
	for i := range l {
		l[i] = one(77, 78)
	}
}

// TestMany holds that long lists are laid whole.
func TestMany(t *testing.T) {
	var n []uint32
	for i := range uint32(100000) {
		n = append(n, 3*i, 3*i+2)
	}
	l := of(n...)
	if !span.May(l) || span.Len(l) != 200000 || !span.Has(l, 299998) || span.Has(l, 299999) {
		t.Error("a long list")
	}
	got, e := span.Add(l, one(1, 299997))
	same(t, "Add", got, e, of(0, 299999))
	got, e = span.Cut(l, one(1, 299998))
	same(t, "Cut", got, e, of(0, 1, 299998, 299999))
}
