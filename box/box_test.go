package box_test

import (
	"bytes"
	"encoding/hex"
	"fmt"
	"math"
	"math/rand"
	"slices"
	"strings"
	"testing"

	"wharfage/api"
	"wharfage/batch"
	"wharfage/box"
	"wharfage/tree"
)

// hexed is bytes of hexadecimal digits; blanks stand where they please.
func hexed(s string) []byte {
	b, err := hex.DecodeString(strings.ReplaceAll(s, " ", ""))
	if err != nil {
		panic(err)
	}
	return b
}

// rowsOf are rows, of keys and values in hexadecimal digits, in turn.
func rowsOf(l ...string) []api.Row {
	var out []api.Row
	for two := range slices.Chunk(l, 2) {
		out = append(out, api.Row{Key: string(hexed(two[0])), Value: hexed(two[1])})
	}
	return out
}

// some is a whole tree, of numbers all unlike: files a, dd/é; directories dd, dd/e; sessions of the clients 1 and 3.
func some() api.Tree {
	return api.Tree{
		Nodes: []api.Node{
			{Ino: 1, Gen: 1, Dir: true, Change: 0x0102030405060708, Names: []api.Entry{{Name: "a", Ino: 0xfffffffe}, {Name: "dd", Ino: 3}}},
			{Ino: 3, Gen: 0x11223344, Dir: true, Change: 0, Names: []api.Entry{{Name: "e", Ino: 0x01020304}, {Name: "é", Ino: 0x7f}}},
			{Ino: 0x7f, Gen: 2, Change: 9},
			{Ino: 0x01020304, Gen: 0x80, Dir: true, Change: 0xff},
			{Ino: 0xfffffffe, Gen: 0x55667788, Change: 0x0a0b0c0d0e0f1011, Data: []byte{0, 1, 'n', 255}},
		},
		LastGen: 0x55667789, Boot: 0x12131415, Count: 0x21222324,
		Sessions: [4]api.Session{{}, {Inc: 0x31323334, Seq: 0x4142434445464748, Back: []byte{5, 6}}, {}, {Inc: 1}},
	}
}

// someRows are the rows of some.
func someRows() []api.Row {
	return rowsOf(
		"6e 00000001", "00000001 01 0102030405060708  01 61 fffffffe  02 6464 00000003",
		"6e 00000003", "11223344 01 0000000000000000  01 65 01020304  02 c3a9 0000007f",
		"6e 0000007f", "00000002 00 0000000000000009",
		"6e 01020304", "00000080 01 00000000000000ff",
		"6e fffffffe", "55667788 00 0a0b0c0d0e0f1011  00 01 6e ff",
		"73 01", "31323334 4142434445464748 0506",
		"73 03", "00000001 0000000000000000",
		"74", "55667789 12131415 21222324")
}

// with is some, changed.
func with(do func(t *api.Tree)) api.Tree {
	t := some()
	do(&t)
	return t
}

// full is a tree at each limit: MaxNodes nodes, two directories of MaxEntries names of MaxName bytes, files of MaxFile bytes, replies of MaxMessage.
func full() api.Tree {
	t := api.Tree{Nodes: []api.Node{{Ino: 1, Gen: 1, Dir: true}}, LastGen: math.MaxUint32, Boot: 1 << 31, Count: math.MaxUint32}
	for n := range 63 {
		x := api.Node{Ino: uint32(n) + 2, Gen: math.MaxUint32 - uint32(n), Change: 1<<63 + uint64(n), Data: bytes.Repeat([]byte{byte(n)}, 4096)}
		if n == 0 {
			x.Dir, x.Data = true, nil
		}
		t.Nodes = append(t.Nodes, x)
		in := &t.Nodes[n/32]
		in.Names = append(in.Names, api.Entry{Name: fmt.Sprintf("%032d", n), Ino: x.Ino})
	}
	for i := range t.Sessions {
		t.Sessions[i] = api.Session{Inc: math.MaxUint32, Seq: math.MaxUint64, Back: bytes.Repeat([]byte{byte(i)}, 4096)}
	}
	return t
}

// deep is a tree of so many directories, each in the one ahead.
func deep(many int) api.Tree {
	t := api.Tree{LastGen: 64, Boot: 1}
	for n := range many {
		ino := uint32(n) + 1
		t.Nodes = append(t.Nodes, api.Node{Ino: ino, Gen: ino, Dir: true, Names: []api.Entry{{Name: "n", Ino: ino + 1}}})
	}
	t.Nodes[many-1].Names = nil
	return t
}

// wholes are whole trees.
func wholes() []api.Tree {
	return []api.Tree{
		tree.New(), some(), full(), deep(1), deep(64),
		with(func(t *api.Tree) {
			t.Sessions = [4]api.Session{{Inc: 1}, {Inc: 2, Seq: 1}, {Inc: 3, Back: []byte{0}}, {Inc: 4, Seq: 0, Back: []byte{}}}
		}),
		with(func(t *api.Tree) { t.Sessions = [4]api.Session{} }),
		with(func(t *api.Tree) { t.Sessions[0].Back = []byte{} }),
		with(func(t *api.Tree) { t.Sessions[2] = api.Session{Inc: math.MaxUint32, Back: make([]byte, 4096)} }),
		with(func(t *api.Tree) { t.Nodes[4].Data = make([]byte, 4096) }),
		with(func(t *api.Tree) {
			t.Nodes[2].Names, t.Nodes[0].Data, t.Nodes[3].Names = []api.Entry{}, []byte{}, []api.Entry{}
		}),
		with(func(t *api.Tree) { t.Nodes[0].Names[0].Name = strings.Repeat("A", 32) }),
		with(func(t *api.Tree) { t.Boot = 1 << 31 }),
		with(func(t *api.Tree) { t.LastGen, t.Count = math.MaxUint32, math.MaxUint32 }),
		with(func(t *api.Tree) { t.LastGen, t.Count = 0x55667788, 0 }),
	}
}

// broken are trees that are not whole.
func broken() []api.Tree {
	return []api.Tree{
		{},
		with(func(t *api.Tree) { t.Sessions[0].Seq = 1 }),
		with(func(t *api.Tree) { t.Sessions[2].Seq = 1 << 63 }),
		with(func(t *api.Tree) { t.Sessions[0].Back = []byte{0} }),
		with(func(t *api.Tree) { t.Sessions[1].Inc = 0 }),
		with(func(t *api.Tree) { t.Sessions[0].Back = make([]byte, 4097) }),
		with(func(t *api.Tree) { t.Sessions[1].Back = make([]byte, 4097) }),
		with(func(t *api.Tree) { t.Sessions[3].Back = make([]byte, 70000) }),
		with(func(t *api.Tree) { t.Boot = 0 }),
		with(func(t *api.Tree) { t.Boot = 1<<31 + 1 }),
		with(func(t *api.Tree) { t.LastGen = 0x55667787 }),
		with(func(t *api.Tree) { t.Nodes = t.Nodes[:4] }),
		with(func(t *api.Tree) { t.Nodes = t.Nodes[1:] }),
		with(func(t *api.Tree) { t.Nodes[2].Gen = 1 }),
		with(func(t *api.Tree) { t.Nodes[0].Data = []byte{0} }),
		with(func(t *api.Tree) { t.Nodes[0].Names[1].Name = "a" }),
		with(func(t *api.Tree) { t.Nodes[0].Names[1].Name = "" }),
		with(func(t *api.Tree) { t.Nodes[0].Names[1].Name = strings.Repeat("e", 256) }),
		with(func(t *api.Tree) { t.Nodes[2].Names = t.Nodes[0].Names[:1] }),
		with(func(t *api.Tree) { t.Nodes[4].Data = make([]byte, 4097) }),
		with(func(t *api.Tree) { t.Nodes[4].Change = math.MaxUint64 }),
		with(func(t *api.Tree) { t.Nodes = append(t.Nodes, api.Node{Ino: 5, Gen: 5}) }),
		with(func(t *api.Tree) { t.Nodes[1], t.Nodes[2] = t.Nodes[2], t.Nodes[1] }),
		deep(65),
	}
}

// TestExamples holds the chapter's table of examples, in its order.
func TestExamples(t *testing.T) {
	l, e := box.Rows(tree.New())
	if e != api.OK || len(l) != 2 || l[0].Key != "\x6e\x00\x00\x00\x01" || l[1].Key != "\x74" {
		t.Errorf("Rows(tree.New) = %q, %d", l, e)
	}
	if x, e := box.Load(l); e != api.OK || !tree.Same(x, tree.New()) {
		t.Errorf("Load(that) = %+v, %d", x, e)
	}
	if x, e := box.Load(nil); e != api.ErrForm || !isZero(x) {
		t.Errorf("Load(none) = %+v, %d", x, e)
	}
}

func TestRows(t *testing.T) {
	for i, c := range []struct {
		x api.Tree
		l []api.Row
	}{
		{some(), someRows()},
		{tree.New(), rowsOf("6e 00000001", "00000001 01 0000000100000001", "74", "00000001 00000001 00000001")},
		{with(func(t *api.Tree) { t.Sessions[0].Inc = 0xa1a2a3a4 }), slices.Insert(someRows(), 5, rowsOf("73 00", "a1a2a3a4 0000000000000000")...)},
		{with(func(t *api.Tree) { t.Sessions[3].Inc, t.Sessions[2].Inc = 0, 2 }), slices.Replace(someRows(), 6, 7, rowsOf("73 02", "00000002 0000000000000000")...)},
	} {
		if l, e := box.Rows(c.x); e != api.OK || !likeRows(l, c.l) {
			t.Errorf("%d: Rows = %x, %d", i, l, e)
		}
		if x, e := box.Load(c.l); e != api.OK || !tree.Same(x, c.x) {
			t.Errorf("%d: Load = %+v, %d", i, x, e)
		}
	}
}

func TestWhole(t *testing.T) {
	for i, x := range wholes() {
		l, e := box.Rows(x)
		if !box.Whole(x) || e != api.OK || !likeRows(l, plainRows(x)) || !batch.May(l) {
			t.Errorf("whole tree %d: %t, %d", i, box.Whole(x), e)
		}
		loads(t, fmt.Sprint("whole tree ", i), l)
		if y, e := box.Load(l); e != api.OK || !tree.Same(x, y) {
			t.Errorf("whole tree %d: Load: %d", i, e)
		}
	}
	for i, x := range broken() {
		if l, e := box.Rows(x); box.Whole(x) || e != api.ErrArg || len(l) > 0 {
			t.Errorf("broken tree %d: %t, %d", i, box.Whole(x), e)
		}
		loads(t, fmt.Sprint("broken tree ", i), plainRows(x))
	}
}

// TestBrokenRows lays trees that are not whole as if they were: but for what no row tells, none is loaded.
func TestBrokenRows(t *testing.T) {
	for i, x := range broken() {
		l := plainRows(x)
		slices.SortFunc(l, func(a, b api.Row) int { return strings.Compare(a.Key, b.Key) })
		loads(t, fmt.Sprint("sorted rows of the broken tree ", i), l)
	}
}

// TestEachByte changes each byte of each row to each value, and cuts it, and lays a byte there.
func TestEachByte(t *testing.T) {
	for at := range someRows() {
		for _, isKey := range []bool{true, false} {
			size := len(someRows()[at].Value)
			if isKey {
				size = len(someRows()[at].Key)
			}
			for i := range size + 1 {
				for by := range 256 {
					if i < size {
						loads(t, "changed", edited(at, isKey, i, 1, byte(by)))
					}
					loads(t, "longer", edited(at, isKey, i, 0, byte(by)))
				}
				for many := range size - i + 1 {
					loads(t, "shorter", edited(at, isKey, i, many))
				}
			}
		}
	}
}

// edited is the rows of some, where so many bytes of a key, or a value, give place to others.
func edited(at int, isKey bool, from, many int, by ...byte) []api.Row {
	l := someRows()
	if isKey {
		l[at].Key = string(slices.Replace([]byte(l[at].Key), from, from+many, by...))
	} else {
		l[at].Value = slices.Replace(l[at].Value, from, from+many, by...)
	}
	return l
}

// TestKeys lays a row of each short key among the others, of values that other rows have.
func TestKeys(t *testing.T) {
	var keys []string
	for a := range 256 {
		keys = append(keys, string([]byte{byte(a)}), string([]byte{byte(a), 2}))
		for _, first := range []byte("nstNST") {
			keys = append(keys, string([]byte{first, byte(a)}))
		}
	}
	for _, first := range []string{"n", "s", "t", "N", "o"} {
		for many := range 18 {
			keys = append(keys, first+strings.Repeat("\x00", many), first+strings.Repeat("\x02", many))
		}
	}
	values := [][]byte{nil, {1}}
	for _, r := range someRows() {
		values = append(values, r.Value)
	}
	for _, key := range keys {
		for _, v := range values {
			l := slices.DeleteFunc(someRows(), func(r api.Row) bool { return r.Key == key })
			at, _ := slices.BinarySearchFunc(l, key, func(r api.Row, key string) int { return strings.Compare(r.Key, key) })
			loads(t, "a further key", slices.Insert(l, at, api.Row{Key: key, Value: v}))
		}
	}
}

// TestNoTable hands over rows that are no table.
func TestNoTable(t *testing.T) {
	none := map[string][]api.Row{
		"an empty key":       append(rowsOf("", "00"), someRows()...),
		"an empty key alone": {{}},
		"a key twice":        append(someRows(), someRows()[7]),
		"turned round":       reversed(someRows()),
		"a long value":       edited(4, false, 13, 0, make([]byte, 8193)...),
		"a long reply":       edited(6, false, 12, 0, make([]byte, 8193-12)...),
		"a long key":         edited(7, true, 1, 0, make([]byte, 16)...),
	}
	for at := 1; at < len(someRows()); at++ {
		l := someRows()
		l[at-1], l[at] = l[at], l[at-1]
		none[fmt.Sprint("swapped at ", at)] = l
		none[fmt.Sprint("twice at ", at)] = slices.Insert(someRows(), at, someRows()[at])
	}
	for what, l := range none {
		if x, e := box.Load(l); e != api.ErrForm || !isZero(x) {
			t.Errorf("%s: Load = %+v, %d", what, x, e)
		}
	}
}

// TestRowsGone takes each set of rows away.
func TestRowsGone(t *testing.T) {
	for set := range 1 << len(someRows()) {
		var l []api.Row
		for i, r := range someRows() {
			if set>>i&1 == 0 {
				l = append(l, r)
			}
		}
		loads(t, fmt.Sprintf("without %b", set), l)
	}
}

// TestManyRows loads more nodes, names and bytes than a tree can have.
func TestManyRows(t *testing.T) {
	for many := 60; many < 70; many++ {
		loads(t, "so many nodes", plainRows(deep(many)))
	}
	for _, many := range []int{31, 32, 33, 100, 200} {
		x := api.Tree{Nodes: []api.Node{{Ino: 1, Gen: 1, Dir: true}}, LastGen: 500, Boot: 1}
		for n := range many {
			x.Nodes[0].Names = append(x.Nodes[0].Names, api.Entry{Name: fmt.Sprintf("n%03d", n), Ino: uint32(n) + 2})
			x.Nodes = append(x.Nodes, api.Node{Ino: uint32(n) + 2, Gen: uint32(n) + 2})
		}
		loads(t, "so many names", plainRows(x))
	}
	for size := 4090; size < 4100; size++ {
		loads(t, "so many bytes", plainRows(with(func(t *api.Tree) { t.Nodes[4].Data = make([]byte, size) })))
		loads(t, "so long a reply", plainRows(with(func(t *api.Tree) { t.Sessions[3].Back = make([]byte, size) })))
	}
	for size := range 40 {
		loads(t, "so long a name", plainRows(with(func(t *api.Tree) { t.Nodes[0].Names[1].Name = strings.Repeat("e", size) })))
	}
}

// TestTurns grows trees by the calls of tree, changes them and their rows by chance, and holds all against the plain model.
func TestTurns(t *testing.T) {
	r := rand.New(rand.NewSource(14))
	x := tree.New()
	for turn := range 8000 {
		x = grown(r, x)
		if turn%500 == 0 {
			x = tree.New()
		}
		y := tree.Copy(x)
		if r.Intn(3) == 0 {
			shake(r, &y)
		}
		l, e := box.Rows(y)
		if is := plainWhole(y); box.Whole(y) != is || (e == api.OK) != is || is && !likeRows(l, plainRows(y)) {
			t.Fatalf("turn %d: Whole = %t, Rows: %d, of %+v", turn, box.Whole(y), e, y)
		}
		loads(t, fmt.Sprint("turn ", turn), l)
		l = plainRows(y)
		for range r.Intn(3) {
			l = shaken(r, l)
		}
		loads(t, fmt.Sprint("shaken turn ", turn), l)
	}
}

// grown is a tree behind some call.
func grown(r *rand.Rand, x api.Tree) api.Tree {
	n := x.Nodes[r.Intn(len(x.Nodes))]
	h := api.Handle{Ino: n.Ino, Gen: n.Gen}
	s := string(rune('a' + r.Intn(12)))
	switch r.Intn(8) {
	case 0, 1, 2:
		x, _, _ = tree.Make(x, h, s, r.Intn(2) == 0)
	case 3:
		x, _ = tree.Remove(x, h, s, r.Intn(2) == 0)
	case 4:
		to := x.Nodes[r.Intn(len(x.Nodes))]
		x, _ = tree.Rename(x, h, s, api.Handle{Ino: to.Ino, Gen: to.Gen}, string(rune('a'+r.Intn(12))))
	case 5:
		x, _ = tree.Write(x, h, uint32(r.Intn(40)), make([]byte, 1+r.Intn(20)))
	case 6:
		x, _ = tree.Resize(x, h, uint32(r.Intn(30)))
	case 7:
		x.Sessions[r.Intn(4)] = api.Session{Inc: uint32(1 + r.Intn(3)), Seq: r.Uint64(), Back: make([]byte, r.Intn(5))}
	}
	return x
}

// shake changes a field of a tree.
func shake(r *rand.Rand, x *api.Tree) {
	n, s := &x.Nodes[r.Intn(len(x.Nodes))], &x.Sessions[r.Intn(4)]
	switch r.Intn(10) {
	case 0:
		n.Ino = uint32(r.Intn(9))
	case 1:
		n.Gen = uint32(r.Intn(9))
	case 2:
		n.Dir = !n.Dir
	case 3:
		n.Data = make([]byte, r.Intn(3))
	case 4:
		n.Names = append(n.Names, api.Entry{Name: string(rune('a' + r.Intn(20))), Ino: uint32(r.Intn(9))})
	case 5:
		x.LastGen = uint32(r.Intn(9))
	case 6:
		x.Boot = uint32(r.Intn(3))
	case 7:
		s.Inc = uint32(r.Intn(2))
	case 8:
		s.Seq = uint64(r.Intn(2))
	case 9:
		s.Back = make([]byte, r.Intn(2))
	}
}

// shaken is rows, somehow changed.
func shaken(r *rand.Rand, l []api.Row) []api.Row {
	l = cloneRows(l)
	i, j := r.Intn(len(l)), r.Intn(len(l))
	switch r.Intn(7) {
	case 0:
		l = slices.Delete(l, i, i+1)
	case 1:
		l[i], l[j] = l[j], l[i]
	case 2:
		l[i].Value = l[j].Value
	case 3:
		l[i].Value = l[i].Value[:r.Intn(len(l[i].Value)+1)]
	case 4:
		l[i].Value = append(l[i].Value, make([]byte, r.Intn(9))...)
	case 5:
		if len(l[i].Value) > 0 {
			l[i].Value[r.Intn(len(l[i].Value))] = byte(r.Intn(5))
		}
	case 6:
		b := []byte(l[i].Key)
		b[r.Intn(len(b))] = byte(r.Intn(128))
		l[i].Key = string(b)
	}
	if len(l) == 0 {
		return someRows()
	}
	return l
}
