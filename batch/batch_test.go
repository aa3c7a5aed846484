package batch_test

import (
	"bytes"
	"cmp"
	"fmt"
	"math/rand"
	"slices"
	"strings"
	"testing"

	"wharfage/api"
	"wharfage/batch"
)

const (
	maxKey   = 16
	maxValue = 8192
)

func row(key string, value ...byte) api.Row { return api.Row{Key: key, Value: value} }

func put(key string, value ...byte) api.Change { return api.Change{Key: key, Value: value} }

func gone(key string) api.Change { return api.Change{Key: key, Gone: true} }

func rows(l ...api.Row) []api.Row { return l }

func changes(l ...api.Change) []api.Change { return l }

// brief is a text of x, cut where it is long.
func brief(x any) string {
	s := fmt.Sprintf("%v", x)
	if b, ok := x.([]byte); ok {
		s = fmt.Sprintf("%x", b)
	}
	return fmt.Sprintf("%.300s", s)
}

// long is n bytes of which those beside one another are unlike.
func long(n int) []byte {
	b := make([]byte, n)
	for i := range b {
		b[i] = byte(i + 1)
	}
	return b
}

func sameRow(x, y api.Row) bool { return x.Key == y.Key && bytes.Equal(x.Value, y.Value) }

func sameChange(x, y api.Change) bool {
	return x.Key == y.Key && x.Gone == y.Gone && bytes.Equal(x.Value, y.Value)
}

func sameRows(a, b []api.Row) bool { return slices.EqualFunc(a, b, sameRow) }

func sameChanges(a, b []api.Change) bool { return slices.EqualFunc(a, b, sameChange) }

func deepRows(l []api.Row) []api.Row {
	l = slices.Clone(l)
	for i := range l {
		l[i].Value = slices.Clone(l[i].Value)
	}
	return l
}

func deepChanges(l []api.Change) []api.Change {
	l = slices.Clone(l)
	for i := range l {
		l[i].Value = slices.Clone(l[i].Value)
	}
	return l
}

func puts(t *testing.T, l []api.Change, want []byte) {
	t.Helper()
	if b, e := batch.Put(l); !bytes.Equal(b, want) || e != api.OK {
		t.Errorf("Put(%v) = %v, %d; want %v", brief(l), brief(b), e, brief(want))
	}
}

func gets(t *testing.T, b []byte, want []api.Change) {
	t.Helper()
	if l, e := batch.Get(b); !sameChanges(l, want) || e != api.OK {
		t.Errorf("Get(%v) = %v, %d; want %v", brief(b), brief(l), e, brief(want))
	}
}

func refuses(t *testing.T, b []byte, want api.Errno) {
	t.Helper()
	if l, e := batch.Get(b); len(l) > 0 || e != want {
		t.Errorf("Get(%v) = %v, %d; want %d", brief(b), brief(l), e, want)
	}
}

func applies(t *testing.T, table []api.Row, l []api.Change, want []api.Row) {
	t.Helper()
	if got, e := batch.Apply(table, l); !sameRows(got, want) || e != api.OK {
		t.Errorf("Apply(%v, %v) = %v, %d; want %v", brief(table), brief(l), brief(got), e, brief(want))
	}
}

func tellsBetween(t *testing.T, a, b []api.Row, want []api.Change) {
	t.Helper()
	if got, e := batch.Between(a, b); !sameChanges(got, want) || e != api.OK {
		t.Errorf("Between(%v, %v) = %v, %d; want %v", brief(a), brief(b), brief(got), e, brief(want))
	}
}

func finds(t *testing.T, table []api.Row, key string, want ...byte) {
	t.Helper()
	if got, is := batch.Find(table, key); !is || !bytes.Equal(got, want) {
		t.Errorf("Find(%v, %q) = %v, %v; want %v", brief(table), key, brief(got), is, brief(want))
	}
}

func findsNone(t *testing.T, table []api.Row, key string) {
	t.Helper()
	if got, is := batch.Find(table, key); is || len(got) > 0 {
		t.Errorf("Find(%v, %q) = %v, %v", brief(table), key, brief(got), is)
	}
}

// TestExamples holds the chapter's table of examples, in its order.
func TestExamples(t *testing.T) {
	puts(t, changes(put("ab", 7), gone("ac")), []byte{0, 2, 0x61, 0x62, 0, 2, 7, 1, 1, 0x63, 0, 0})
	if b, e := batch.Put(changes(put("b"), put("a"))); len(b) > 0 || e != api.ErrArg {
		t.Errorf("Put(b; a) = %v, %d", brief(b), e)
	}
	refuses(t, []byte{0, 1, 0x61, 0}, api.ErrShort)
	refuses(t, []byte{1, 1, 0x61}, api.ErrForm)
	if n := batch.Shared("abc", "abd"); n != 2 {
		t.Errorf("Shared = %d", n)
	}
	applies(t, rows(row("a", 7)), changes(gone("a"), put("b", 8)), rows(row("b", 8)))
	tellsBetween(t, rows(row("a", 7)), rows(row("a", 9)), changes(put("a", 9)))
	findsNone(t, rows(row("a", 7)), "b")
}

// tables are some that may be, at their limits.
func tables() [][]api.Row {
	return [][]api.Row{
		nil,
		{},
		{row("a")},
		{row("a", 7)},
		{row("\x00")},
		{row("\x00"), row("\x00\x00"), row("\x00\x01"), row("\x7f"), row("\x80"), row("\xff"), row("\xff\xff")},
		{row("0"), row("A"), row("Z"), row("a"), row("a\x00"), row("aa"), row("ab"), row("b")},
		{row(strings.Repeat("k", maxKey), long(maxValue)...)},
		{row(strings.Repeat("k", maxKey-1)), row(strings.Repeat("k", maxKey))},
		{row("é", 1), row("日本", 2)},
		{row("a", long(maxValue)...), row("b", long(maxValue-1)...), row("c", long(256)...)},
	}
}

// noTables are lists that are no table, each for a reason of its own.
func noTables() [][]api.Row {
	return [][]api.Row{
		{row("")},
		{row(""), row("a")},
		{row("a"), row("")},
		{row(strings.Repeat("k", maxKey+1))},
		{row("a"), row(strings.Repeat("k", maxKey+1))},
		{row("a"), row(strings.Repeat("k", 300)), row("z")},
		{row("a"), row("a")},
		{row("a", 1), row("a", 2)},
		{row("b"), row("a")},
		{row("aa"), row("a")},
		{row("a"), row("c"), row("b")},
		{row("b"), row("a"), row("c")},
		{row("a"), row("b"), row("b")},
		{row("\x80"), row("\x7f")},
		{row("a"), row("Z")},
		{row("a", make([]byte, maxValue+1)...)},
		{row("a"), row("b", make([]byte, maxValue+1)...)},
		{row("a", make([]byte, 1<<16)...), row("b")},
	}
}

// asChanges puts each row.
func asChanges(l []api.Row) []api.Change {
	var out []api.Change
	for _, r := range l {
		out = append(out, api.Change{Key: r.Key, Value: r.Value})
	}
	return out
}

func TestMay(t *testing.T) {
	for _, l := range tables() {
		if !batch.May(l) {
			t.Errorf("May(%v): no", brief(l))
		}
	}
	for _, l := range noTables() {
		if batch.May(l) {
			t.Errorf("May(%v): yes", brief(l))
		}
	}
}

// manyChanges are some that may be.
func manyChanges() [][]api.Change {
	out := [][]api.Change{
		{gone("a")},
		{{Key: "a", Value: []byte{}, Gone: true}},
		{put("a", 7), gone("ab"), put("abc"), gone("b")},
		{gone("\x00"), gone(strings.Repeat("\xff", maxKey))},
		{gone(strings.Repeat("k", maxKey))},
	}
	for _, l := range tables() {
		out = append(out, asChanges(l))
	}
	return out
}

// noChanges are lists that are none.
func noChanges() [][]api.Change {
	out := [][]api.Change{
		{{Key: "a", Value: []byte{0}, Gone: true}},
		{put("a"), {Key: "b", Value: []byte{1}, Gone: true}},
		{{Key: "a", Value: long(maxValue + 1), Gone: true}},
		{gone("")},
		{gone(strings.Repeat("k", maxKey+1))},
		{gone("a"), gone("a")},
		{gone("a"), put("a", 1)},
		{put("a", 1), gone("a")},
		{gone("b"), gone("a")},
	}
	for _, l := range noTables() {
		out = append(out, asChanges(l))
	}
	return out
}

func TestMayChange(t *testing.T) {
	for _, l := range manyChanges() {
		if !batch.MayChange(l) {
			t.Errorf("MayChange(%v): no", brief(l))
		}
	}
	for _, l := range noChanges() {
		if batch.MayChange(l) {
			t.Errorf("MayChange(%v): yes", brief(l))
		}
	}
}

// laid is changes as bytes, as the chapter describes them.
func laid(l []api.Change) (b []byte) {
	ahead := ""
	for _, c := range l {
		n := 0
		for n < len(ahead) && strings.HasPrefix(c.Key, ahead[:n+1]) {
			n++
		}
		b = append(b, byte(n), byte(len(c.Key)-n))
		b = append(b, c.Key[n:]...)
		if c.Gone {
			b = append(b, 0, 0)
		} else {
			b = append(b, byte((len(c.Value)+1)/256), byte((len(c.Value)+1)%256))
			b = append(b, c.Value...)
		}
		ahead = c.Key
	}
	return b
}

func TestPut(t *testing.T) {
	for _, l := range manyChanges() {
		puts(t, l, laid(l))
	}
	puts(t, nil, nil)
	puts(t, changes(put("n", long(254)...)), append([]byte{0, 1, 'n', 0, 255}, long(254)...))
	puts(t, changes(put("n", long(255)...)), append([]byte{0, 1, 'n', 1, 0}, long(255)...))
	puts(t, changes(put("n", long(maxValue)...)), append([]byte{0, 1, 'n', 32, 1}, long(maxValue)...))
	puts(t, changes(gone("a"), gone("ab"), gone("b")), []byte{0, 1, 'a', 0, 0, 1, 1, 'b', 0, 0, 0, 1, 'b', 0, 0})
	// é and è begin with the same byte: bytes are shared, not runes.
	puts(t, changes(gone("xè"), gone("xé")), []byte{0, 3, 'x', 0xc3, 0xa8, 0, 0, 2, 1, 0xa9, 0, 0})
	for _, l := range noChanges() {
		if b, e := batch.Put(l); len(b) > 0 || e != api.ErrArg {
			t.Errorf("Put(%v) = %v, %d", brief(l), brief(b), e)
		}
	}
}

// TestPutIsGot holds P7.3: what is put is got; what is cut within a change is not.
func TestPutIsGot(t *testing.T) {
	for _, l := range manyChanges() {
		b := laid(l)
		gets(t, b, l)
		ends := map[int]bool{}
		for n := range l {
			ends[len(laid(l[:n]))] = true
		}
		for n := range b {
			if _, e := batch.Get(b[:n]); ends[n] != (e == api.OK) || !ends[n] && e != api.ErrShort {
				t.Errorf("Get(%v, cut at %d): %d", brief(l), n, e)
			}
		}
	}
}

func TestGetRefuses(t *testing.T) {
	key := func(n int) []byte { return bytes.Repeat([]byte{'k'}, n) }
	join := func(l ...[]byte) []byte { return bytes.Join(l, nil) }
	first := []byte{0, 2, 'a', 'b', 0, 1}
	for _, b := range [][]byte{
		{0}, {0, 1}, {0, 0}, {0, 0, 0}, {0, 255}, {0, 2, 'a'}, {0, 1, 'a'}, {0, 1, 'a', 0}, {0, 1, 'a', 0, 2},
		{0, 1, 'a', 0, 3, 1}, {0, 1, 'a', 1, 0}, {0, 1, 'a', 255, 255},
		// What is not there is told ahead of what may not be.
		join([]byte{0, 17}, key(16)), join([]byte{0, 17}, key(17)), join([]byte{0, 17}, key(17), []byte{0}), join([]byte{0, 17}, key(17), []byte{0, 2}),
		join([]byte{0, 1, 'a', 32, 2}, make([]byte, 8192)), {0, 0, 0, 2},
		join(first, []byte{0}), join(first, []byte{2}), join(first, []byte{1, 0}), join(first, []byte{0, 1, 'a', 0}), join(first, []byte{0, 1, 'A', 0, 2}), join(first, []byte{2, 0, 0, 2}),
		join(first, []byte{0, 2, 'a', 'b', 0}),
		// An end too soon is told, whatever was well ahead of it.
		join(first, []byte{2, 1, 'c', 0, 0}, []byte{3, 1}),
	} {
		refuses(t, b, api.ErrShort)
	}
	for _, b := range [][]byte{
		// A beginning that is longer than the key ahead is told ahead of what is not there.
		{1}, {255}, {1, 1}, {1, 0, 0, 0}, {1, 1, 'a', 0, 0}, join(first, []byte{3}), join(first, []byte{3, 1, 'c', 0, 0}), join(first, []byte{2, 1, 'c', 0, 0}, []byte{4}),
		// No key, and one that is too long.
		{0, 0, 0, 0}, {0, 0, 0, 1}, {0, 0, 0, 2, 7}, join([]byte{0, 17}, key(17), []byte{0, 0}), join([]byte{0, 255}, key(255), []byte{0, 1}),
		join([]byte{0, 16}, key(16), []byte{0, 0, 16, 1, 'k', 0, 0}), join(first, []byte{2, 15}, key(15), []byte{0, 0}),
		// A value that is too long.
		join([]byte{0, 1, 'a', 32, 2}, make([]byte, 8193)), join([]byte{0, 1, 'a', 255, 255}, make([]byte, 65534)), join(first, []byte{0, 1, 'b', 32, 2}, make([]byte, 8193)),
		// Keys that don't rise.
		join(first, []byte{2, 0, 0, 0}), join(first, []byte{2, 0, 0, 1}), join(first, []byte{1, 0, 0, 1}), join(first, []byte{0, 0, 0, 1}), join(first, []byte{1, 1, 'a', 0, 1}), join(first, []byte{0, 1, 'A', 0, 0}),
		// A beginning that could be longer.
		join(first, []byte{0, 2, 'a', 'c', 0, 1}), join(first, []byte{1, 2, 'b', 'c', 0, 1}), join(first, []byte{0, 3, 'a', 'b', 'c', 0, 0}), join(first, []byte{0, 2, 'a', 'b', 0, 0}),
		// A later change is refused as the first one is, and an earlier fault is told ahead of a later one.
		join(first, []byte{2, 1, 'c', 0, 0}, []byte{3, 0, 0, 0}), {0, 0, 0, 1, 0},
	} {
		refuses(t, b, api.ErrForm)
	}
	gets(t, nil, nil)
	gets(t, []byte{}, nil)
	gets(t, join([]byte{0, 16}, key(16), []byte{0, 0}), changes(gone(string(key(16)))))
	gets(t, join(first, []byte{2, 14}, key(14), []byte{0, 0}), changes(put("ab"), gone("ab"+string(key(14)))))
	gets(t, join(first, []byte{0, 1, 'b', 0, 3, 0, 1}), changes(put("ab"), put("b", 0, 1)))
}

// reads is Get, as the chapter words it, from the end of a key ahead on.
func reads(b []byte, ahead string) ([]api.Change, api.Errno) {
	if len(b) == 0 {
		return nil, api.OK
	}
	if int(b[0]) > len(ahead) {
		return nil, api.ErrForm
	}
	if len(b) < 2 || len(b) < 2+int(b[1])+2 {
		return nil, api.ErrShort
	}
	n := int(b[0])
	key := ahead[:n] + string(b[2:2+int(b[1])])
	b = b[2+int(b[1]):]
	size := int(b[0])*256 + int(b[1])
	c := api.Change{Key: key, Gone: size == 0}
	b = b[2:]
	if size > 0 {
		if len(b) < size-1 {
			return nil, api.ErrShort
		}
		c.Value, b = b[:size-1], b[size-1:]
	}
	couldBeLonger := n < len(ahead) && n < len(key) && ahead[n] == key[n]
	if len(key) == 0 || len(key) > maxKey || len(c.Value) > maxValue || strings.Compare(ahead, key) >= 0 || couldBeLonger {
		return nil, api.ErrForm
	}
	l, e := reads(b, key)
	if e != api.OK {
		return nil, e
	}
	return append(changes(c), l...), api.OK
}

// holdsBytes holds what Get says of b against the chapter's words, and P7.3: bytes that are got are those that are put.
func holdsBytes(t *testing.T, b []byte) bool {
	t.Helper()
	want, wantErr := reads(b, "")
	l, e := batch.Get(b)
	if !sameChanges(l, want) || e != wantErr {
		t.Fatalf("Get(%v) = %v, %d; want %v, %d", brief(b), brief(l), e, brief(want), wantErr)
	}
	if e == api.OK {
		puts(t, l, b)
	}
	return e == api.OK
}

// TestAllBytes takes all rows of up to ten bytes of a few kinds.
func TestAllBytes(t *testing.T) {
	got := 0
	var b []byte
	var all func(n int)
	all = func(n int) {
		if holdsBytes(t, b) {
			got++
		}
		if n == 0 {
			return
		}
		for c := range byte(4) {
			b = append(b, c)
			all(n - 1)
			b = b[:len(b)-1]
		}
	}
	all(10)
	if got < 100 {
		t.Errorf("%d alone were got", got)
	}
}

// TestChangedBytes takes changes' bytes, one of which is another one.
func TestChangedBytes(t *testing.T) {
	for _, l := range [][]api.Change{
		{put("ab", 7), gone("ac"), put("ad", 1, 2, 3)},
		{gone("a"), gone("ab"), gone("abc"), put("abcd"), put("b", long(20)...)},
		{put(strings.Repeat("k", 15)), put(strings.Repeat("k", 16), 9), gone("z")},
	} {
		b := laid(l)
		for i := range b {
			for c := range 256 {
				x := slices.Clone(b)
				x[i] = byte(c)
				holdsBytes(t, x)
			}
		}
	}
}

func TestShared(t *testing.T) {
	for _, c := range []struct {
		a, b string
		n    int
	}{
		{"", "", 0}, {"", "a", 0}, {"a", "b", 0}, {"a", "a", 1}, {"ab", "a", 1}, {"ab", "ac", 1}, {"ba", "ca", 0}, {"aba", "aca", 1},
		{"abc", "abc", 3}, {"\x00", "\x00\x00", 1}, {"\x00", "", 0}, {"\xff\xfe", "\xff\xff", 1},
		{"é", "è", 1}, {"日", "本", 1}, {"日", "旦", 2}, {strings.Repeat("k", 1000), strings.Repeat("k", 999) + "l", 999},
	} {
		if n := batch.Shared(c.a, c.b); n != c.n {
			t.Errorf("Shared(%q, %q) = %d; want %d", c.a, c.b, n, c.n)
		}
		if n := batch.Shared(c.b, c.a); n != c.n {
			t.Errorf("Shared(%q, %q) = %d; want %d", c.b, c.a, n, c.n)
		}
	}
}

func TestApply(t *testing.T) {
	abc := rows(row("a", 1), row("b", 2), row("c", 3))
	for _, c := range []struct {
		t    []api.Row
		l    []api.Change
		want []api.Row
	}{
		{nil, nil, nil},
		{abc, nil, abc},
		{nil, changes(put("a", 1), put("b")), rows(row("a", 1), row("b"))},
		{nil, changes(gone("a"), gone("b")), nil},
		{abc, changes(gone("a"), gone("b"), gone("c")), nil},
		{abc, changes(gone("a")), abc[1:]},
		{abc, changes(gone("c")), abc[:2]},
		{abc, changes(gone("A"), gone("aa"), gone("d")), abc},
		{abc, changes(put("b", 9, 9)), rows(row("a", 1), row("b", 9, 9), row("c", 3))},
		{abc, changes(put("b")), rows(row("a", 1), row("b"), row("c", 3))},
		{abc, changes(put("A"), put("aa"), put("d", 4)), rows(row("A"), row("a", 1), row("aa"), row("b", 2), row("c", 3), row("d", 4))},
		{abc, changes(put("b", 2)), abc},
		{abc, changes(put("a", 7), gone("b"), put("bb", 8), gone("bc"), put("c", 9)), rows(row("a", 7), row("bb", 8), row("c", 9))},
		{rows(row("\x80")), changes(put("\x7f"), put("\xff")), rows(row("\x7f"), row("\x80"), row("\xff"))},
		{nil, changes(put(strings.Repeat("k", maxKey), long(maxValue)...)), rows(row(strings.Repeat("k", maxKey), long(maxValue)...))},
	} {
		applies(t, c.t, c.l, c.want)
	}
	for _, bad := range noTables() {
		refusesApply(t, bad, nil)
		refusesApply(t, bad, changes(put("a")))
	}
	for _, bad := range noChanges() {
		refusesApply(t, nil, bad)
		refusesApply(t, abc, bad)
	}
}

func refusesApply(t *testing.T, table []api.Row, l []api.Change) {
	t.Helper()
	if got, e := batch.Apply(table, l); len(got) > 0 || e != api.ErrArg {
		t.Errorf("Apply(%v, %v) = %v, %d", brief(table), brief(l), brief(got), e)
	}
}

func TestBetween(t *testing.T) {
	abc := rows(row("a", 1), row("b", 2), row("c", 3))
	for _, c := range []struct {
		a, b []api.Row
		want []api.Change
	}{
		{nil, nil, nil},
		{abc, abc, nil},
		{nil, abc, changes(put("a", 1), put("b", 2), put("c", 3))},
		{abc, nil, changes(gone("a"), gone("b"), gone("c"))},
		{abc, abc[1:], changes(gone("a"))},
		{abc, abc[:2], changes(gone("c"))},
		{abc[1:], abc, changes(put("a", 1))},
		{abc[:2], abc, changes(put("c", 3))},
		{abc, rows(row("a", 1), row("b", 2, 0), row("c", 3)), changes(put("b", 2, 0))},
		{abc, rows(row("a"), row("b", 2), row("c", 4)), changes(put("a"), put("c", 4))},
		{rows(row("a")), rows(row("a", 0)), changes(put("a", 0))},
		{rows(row("a")), rows(row("b")), changes(gone("a"), put("b"))},
		{rows(row("b")), rows(row("a")), changes(put("a"), gone("b"))},
		{rows(row("a")), rows(row("a\x00")), changes(gone("a"), put("a\x00"))},
		{rows(api.Row{Key: "a"}), rows(api.Row{Key: "a", Value: []byte{}}), nil},
		{rows(row("\x7f"), row("\xff")), rows(row("\x80")), changes(gone("\x7f"), put("\x80"), gone("\xff"))},
	} {
		tellsBetween(t, c.a, c.b, c.want)
	}
	for _, bad := range noTables() {
		for _, l := range [][2][]api.Row{{bad, nil}, {bad, abc}, {nil, bad}, {abc, bad}, {bad, bad}} {
			if got, e := batch.Between(l[0], l[1]); len(got) > 0 || e != api.ErrArg {
				t.Errorf("Between(%v, %v) = %v, %d", brief(l[0]), brief(l[1]), brief(got), e)
			}
		}
	}
}

func TestFind(t *testing.T) {
	for _, l := range tables() {
		for _, r := range l {
			finds(t, l, r.Key, r.Value...)
		}
		findsNone(t, l, "")
		findsNone(t, l, "none")
		findsNone(t, l, strings.Repeat("k", maxKey+1))
	}
	abc := rows(row("ab", 1), row("b", 2), row("ca", 3))
	for _, key := range []string{"", "A", "a", "aba", "ab\x00", "b\x00", "bb", "c", "cb", "z"} {
		findsNone(t, abc, key)
	}
	for _, bad := range noTables() {
		for _, r := range bad {
			findsNone(t, bad, r.Key)
		}
		findsNone(t, bad, "")
	}
}

// subsets are all tables of some keys whose values are of two kinds.
func subsets() [][]api.Row {
	keys := []string{"a", "ab", "b", "\xff"}
	var out [][]api.Row
	for n := range 3 * 3 * 3 * 3 {
		var l []api.Row
		for _, k := range keys {
			if n%3 > 0 {
				l = append(l, row(k, byte(n%3)))
			}
			n /= 3
		}
		out = append(out, l)
	}
	return out
}

// applied is Apply, by a map.
func applied(table []api.Row, l []api.Change) []api.Row {
	values := map[string][]byte{}
	for _, r := range table {
		values[r.Key] = r.Value
	}
	for _, c := range l {
		delete(values, c.Key)
		if !c.Gone {
			values[c.Key] = c.Value
		}
	}
	var out []api.Row
	for k, v := range values {
		out = append(out, api.Row{Key: k, Value: v})
	}
	slices.SortFunc(out, func(a, b api.Row) int { return cmp.Compare(a.Key, b.Key) })
	return out
}

// unlike tells how many keys have not the same in both: fewer changes can't do.
func unlike(a, b []api.Row) int {
	n := 0
	for _, r := range a {
		if !slices.ContainsFunc(b, func(x api.Row) bool { return sameRow(x, r) }) {
			n++
		}
	}
	for _, r := range b {
		if !slices.ContainsFunc(a, func(x api.Row) bool { return x.Key == r.Key }) {
			n++
		}
	}
	return n
}

// TestBetweenApplied holds P7.3, and that no fewer changes do.
func TestBetweenApplied(t *testing.T) {
	for _, a := range subsets() {
		for _, b := range subsets() {
			holdsBetween(t, a, b)
		}
	}
	for _, a := range tables() {
		for _, b := range tables() {
			holdsBetween(t, a, b)
		}
	}
}

func holdsBetween(t *testing.T, a, b []api.Row) {
	t.Helper()
	l, e := batch.Between(a, b)
	if e != api.OK || !batch.MayChange(l) || len(l) != unlike(a, b) {
		t.Errorf("Between(%v, %v) = %v, %d", brief(a), brief(b), brief(l), e)
	}
	applies(t, a, l, b)
}

// TestApplyAll holds all tables and all changes of some keys against a map.
func TestApplyAll(t *testing.T) {
	keys := []string{"a", "aa", "b", "\xff"}
	for _, table := range subsets() {
		for n := range 3 * 3 * 3 * 3 {
			var l []api.Change
			for _, k := range keys {
				switch n % 3 {
				case 1:
					l = append(l, put(k, 9))
				case 2:
					l = append(l, gone(k))
				}
				n /= 3
			}
			applies(t, table, l, applied(table, l))
		}
	}
}

// TestLongTurns takes many changes one behind the other, through their bytes.
func TestLongTurns(t *testing.T) {
	r := rand.New(rand.NewSource(7))
	var table []api.Row
	for range 300 {
		values := map[string]api.Change{}
		for range r.Intn(40) {
			key := string(long(20)[:1+r.Intn(4)]) + string(rune('a'+r.Intn(26)))
			if r.Intn(3) == 0 {
				values[key] = gone(key)
			} else {
				values[key] = put(key, long(r.Intn(400))...)
			}
		}
		var l []api.Change
		for _, c := range values {
			l = append(l, c)
		}
		slices.SortFunc(l, func(a, b api.Change) int { return cmp.Compare(a.Key, b.Key) })
		puts(t, l, laid(l))
		gets(t, laid(l), l)
		want := applied(table, l)
		applies(t, table, l, want)
		holdsBetween(t, table, want)
		for _, x := range want {
			finds(t, want, x.Key, x.Value...)
		}
		table = want
	}
	if len(table) < 20 {
		t.Errorf("%d rows alone", len(table))
	}
}

// roomy is values that stand one behind the other in one piece of memory, as handed in lists may.
func roomy() (memory []byte, table []api.Row, l []api.Change) {
	memory = long(60)
	table = rows(row("a", 0), row("b", 0), row("c", 0))
	l = changes(put("a", 0), put("bb", 0), put("c", 0))
	for i := range 3 {
		table[i].Value = memory[10*i : 10*i+5]
		l[i].Value = memory[30+10*i : 30+10*i+5]
	}
	return memory, table, l
}

// TestNothingIsChanged holds that what is handed in stays as it is, the room behind its end too.
func TestNothingIsChanged(t *testing.T) {
	memory, table, l := roomy()
	beyond := append(table, row("behind"))[:3]
	beyondChanges := append(l, put("behind"))[:3]
	b := append(laid(l), 1, 2, 3)
	n := len(b) - 3
	batch.May(beyond)
	batch.MayChange(beyondChanges)
	batch.Put(beyondChanges)
	batch.Get(b[:n])
	batch.Apply(beyond, beyondChanges)
	batch.Between(beyond, beyond[:1])
	batch.Between(beyond[:1], beyond)
	batch.Find(beyond, "b")
	if !bytes.Equal(memory, long(60)) {
		t.Errorf("values are %v", brief(memory))
	}
	_, wantTable, wantChanges := roomy()
	if !sameRows(beyond[:4], append(wantTable, row("behind"))) || !sameChanges(beyondChanges[:4], append(wantChanges, put("behind"))) {
		t.Errorf("lists are %v, %v", brief(beyond[:4]), brief(beyondChanges[:4]))
	}
	if !bytes.Equal(b, append(laid(l), 1, 2, 3)) {
		t.Errorf("bytes are %v", brief(b))
	}
}

// scribble writes over values, and over the room behind their ends.
func scribble(l ...[]byte) {
	for _, b := range l {
		b = b[:cap(b)]
		for i := range b {
			b[i] ^= 0xff
		}
	}
}

func valuesOf(l []api.Row) (out [][]byte) {
	for _, r := range l {
		out = append(out, r.Value)
	}
	return out
}

func valuesOfChanges(l []api.Change) (out [][]byte) {
	for _, c := range l {
		out = append(out, c.Value)
	}
	return out
}

// apart holds that lists of one answer share no memory: each is scribbled on alone.
func apart(t *testing.T, what string, l [][]byte) {
	t.Helper()
	for i := range l {
		var want [][]byte
		for _, b := range l {
			want = append(want, slices.Clone(b))
		}
		scribble(l[i])
		for k := range l {
			if k != i && !bytes.Equal(l[k], want[k]) {
				t.Errorf("%s: %d shares with %d", what, k, i)
			}
		}
		scribble(l[i])
	}
}

// TestAnswersAreNew holds that an answer shares no memory with what was handed in, nor its lists with one another.
func TestAnswersAreNew(t *testing.T) {
	memory, table, l := roomy()
	bytesOf := laid(l)
	b, _ := batch.Put(l)
	got, _ := batch.Get(bytesOf)
	out, _ := batch.Apply(table, l)
	kept, _ := batch.Apply(table, nil)
	between, _ := batch.Between(nil, table)
	changed, _ := batch.Between(rows(row("a"), row("b"), row("c")), table)
	found, _ := batch.Find(table, "b")
	again, _ := batch.Find(table, "b")
	apart(t, "Get", valuesOfChanges(got))
	apart(t, "Apply", valuesOf(out))
	apart(t, "Apply", valuesOf(kept))
	apart(t, "Between", valuesOfChanges(between))
	apart(t, "Between", valuesOfChanges(changed))
	apart(t, "Find", [][]byte{found, again})
	wantOut, wantKept, wantBetween, wantGot := deepRows(out), deepRows(kept), deepChanges(between), deepChanges(got)
	wantBytes, wantFound := slices.Clone(b), slices.Clone(found)
	scribble(memory, bytesOf)
	if !bytes.Equal(b, wantBytes) || !sameChanges(got, wantGot) || !sameRows(out, wantOut) || !sameRows(kept, wantKept) || !sameChanges(between, wantBetween) || !sameChanges(changed, wantBetween) || !bytes.Equal(found, wantFound) {
		t.Error("an answer shares memory with what was handed in")
	}
	memory = slices.Clone(memory)
	scribble(b, found)
	scribble(valuesOf(out)...)
	scribble(valuesOf(kept)...)
	scribble(valuesOfChanges(between)...)
	scribble(valuesOfChanges(changed)...)
	scribble(valuesOfChanges(got)...)
	for i := range 3 {
		if !bytes.Equal(table[i].Value, memory[10*i:10*i+5]) || !bytes.Equal(l[i].Value, memory[30+10*i:30+10*i+5]) {
			t.Error("what was handed in was changed through an answer")
		}
	}
}
