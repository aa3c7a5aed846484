package tree_test

import (
	"bytes"
	"math"
	"slices"
	"strings"
	"testing"
	"unsafe"

	"wharfage/api"
	"wharfage/tree"
)

func TestSame(t *testing.T) {
	for _, l := range []map[string]api.Tree{bases(), bad()} {
		for what, x := range l {
			if !tree.Same(x, clone(x)) || !tree.Same(x, even(x)) || !tree.Same(even(x), x) {
				t.Errorf("%s: not the same as itself", what)
			}
			for other, y := range l {
				if tree.Same(x, y) != like(x, y) {
					t.Errorf("Same(%s, %s) = %t", what, other, !like(x, y))
				}
			}
		}
	}
	for i, do := range differences() {
		x := with(do)
		if tree.Same(x, some()) || tree.Same(some(), x) || !tree.Same(x, x) {
			t.Errorf("difference %d is not told", i)
		}
	}
}

// differences are changes of some, one in each field.
func differences() []func(t *api.Tree) {
	return []func(t *api.Tree){
		func(t *api.Tree) { t.LastGen++ },
		func(t *api.Tree) { t.Boot++ },
		func(t *api.Tree) { t.Count++ },
		func(t *api.Tree) { t.Nodes = nil },
		func(t *api.Tree) { t.Nodes = t.Nodes[:7] },
		func(t *api.Tree) { t.Nodes = append(t.Nodes, api.Node{}) },
		func(t *api.Tree) { t.Nodes[1], t.Nodes[2] = t.Nodes[2], t.Nodes[1] },
		func(t *api.Tree) { t.Nodes[7].Ino++ },
		func(t *api.Tree) { t.Nodes[7].Gen++ },
		func(t *api.Tree) { t.Nodes[7].Dir = true },
		func(t *api.Tree) { t.Nodes[3].Dir = true },
		func(t *api.Tree) { t.Nodes[7].Change++ },
		func(t *api.Tree) { t.Nodes[0].Change += 1 << 32 },
		func(t *api.Tree) { t.Nodes[7].Data[4095]++ },
		func(t *api.Tree) { t.Nodes[7].Data = t.Nodes[7].Data[:4095] },
		func(t *api.Tree) { t.Nodes[6].Data = []byte{0} },
		func(t *api.Tree) { t.Nodes[4].Names = nil },
		func(t *api.Tree) { t.Nodes[1].Names = names("", 0) },
		func(t *api.Tree) { t.Nodes[0].Names[3].Name = "h" },
		func(t *api.Tree) { t.Nodes[0].Names[3].Ino = 8 },
		func(t *api.Tree) { t.Sessions[0].Inc++ },
		func(t *api.Tree) { t.Sessions[3].Inc++ },
		func(t *api.Tree) { t.Sessions[1].Seq++ },
		func(t *api.Tree) { t.Sessions[1].Seq += 1 << 32 },
		func(t *api.Tree) { t.Sessions[1].Back[2]++ },
		func(t *api.Tree) { t.Sessions[3].Back = nil },
		func(t *api.Tree) { t.Sessions[0].Back = []byte{0} },
		func(t *api.Tree) { t.Sessions[2], t.Sessions[3] = t.Sessions[3], t.Sessions[2] },
	}
}

func TestCopy(t *testing.T) {
	for _, l := range []map[string]api.Tree{bases(), bad()} {
		for what, x := range l {
			was := clone(x)
			y := tree.Copy(x)
			if !like(x, y) {
				t.Errorf("%s: Copy = %+v", what, y)
			}
			fill(y)
			if !like(x, was) {
				t.Errorf("%s: the copy shares memory", what)
			}
		}
	}
}

// list is a list of an answer, up to where its room ends: it can be filled, and asked whether it is as it was filled.
type list struct {
	fill func(n int)
	is   func(n int) bool
}

func bytesOf(b []byte) list {
	b = b[:cap(b)]
	of := func(n int) []byte { return bytes.Repeat([]byte{byte(n)}, len(b)) }
	return list{func(n int) { copy(b, of(n)) }, func(n int) bool { return bytes.Equal(b, of(n)) }}
}

func entriesOf(l []api.Entry) list {
	l = l[:cap(l)]
	of := func(n int) []api.Entry {
		return slices.Repeat([]api.Entry{{Name: strings.Repeat("x", n), Ino: uint32(n)}}, len(l))
	}
	return list{func(n int) { copy(l, of(n)) }, func(n int) bool { return slices.Equal(l, of(n)) }}
}

// listsOf are all lists of trees and nodes, but for the lists of nodes.
func listsOf(l ...any) []list {
	var out []list
	for _, x := range l {
		switch x := x.(type) {
		case api.Node:
			out = append(out, bytesOf(x.Data), entriesOf(x.Names))
		case api.Tree:
			for _, n := range x.Nodes {
				out = append(out, listsOf(n)...)
			}
			for _, s := range x.Sessions {
				out = append(out, bytesOf(s.Back))
			}
		}
	}
	return out
}

// fill overwrites all that trees and nodes have, with the room behind it, and tells whether no two lists share any.
func fill(l ...any) bool {
	lists := listsOf(l...)
	for n, x := range lists {
		x.fill(n + 1)
	}
	alone := true
	for n, x := range lists {
		alone = alone && x.is(n+1)
	}
	for _, x := range l {
		if t, is := x.(api.Tree); is {
			clear(t.Nodes[:cap(t.Nodes)])
		}
	}
	return alone
}

// roomy is some, in lists with room behind their ends in which something stands.
func roomy() api.Tree {
	t := some()
	for i, n := range t.Nodes {
		t.Nodes[i].Data = append(slices.Clone(n.Data), bytes.Repeat([]byte{0xee}, 5000)...)[:len(n.Data)]
		t.Nodes[i].Names = append(slices.Clone(n.Names), names("q", 70, "r", 71)...)[:len(n.Names)]
	}
	for i, s := range t.Sessions {
		t.Sessions[i].Back = append(slices.Clone(s.Back), bytes.Repeat([]byte{0xdd}, 40)...)[:len(s.Back)]
	}
	t.Nodes = append(t.Nodes, slices.Repeat([]api.Node{{Ino: 99, Gen: 98}}, 5)...)[:len(t.Nodes)]
	return t
}

// whole is a tree whose lists go up to where their room ends.
func whole(t api.Tree) api.Tree {
	t.Nodes = slices.Clone(t.Nodes[:cap(t.Nodes)])
	for i, n := range t.Nodes {
		t.Nodes[i].Data, t.Nodes[i].Names = n.Data[:cap(n.Data)], n.Names[:cap(n.Names)]
	}
	for i, s := range t.Sessions {
		t.Sessions[i].Back = s.Back[:cap(s.Back)]
	}
	return clone(t)
}

// calls are calls of each kind on some, that are StOK and that are not: each tells what it answered.
func calls() []func(t api.Tree) []any {
	pair := func(t api.Tree, _ uint8) []any { return []any{t} }
	made := func(t api.Tree, n api.Node, _ uint8) []any { return []any{t, n} }
	node := func(n api.Node, _ uint8) []any { return []any{n} }
	return []func(t api.Tree) []any{
		func(t api.Tree) []any { return made(tree.Make(t, root(), "c", true)) },
		func(t api.Tree) []any { return made(tree.Make(t, handle(7, 6), "c", false)) },
		func(t api.Tree) []any { return made(tree.Make(t, root(), "a", false)) },
		func(t api.Tree) []any { return made(tree.Make(t, handle(7, 7), "c", false)) },
		func(t api.Tree) []any { return pair(tree.Remove(t, root(), "a", false)) },
		func(t api.Tree) []any { return pair(tree.Remove(t, root(), "g", true)) },
		func(t api.Tree) []any { return pair(tree.Remove(t, root(), "d", true)) },
		func(t api.Tree) []any { return pair(tree.Rename(t, root(), "b", root(), "c")) },
		func(t api.Tree) []any { return pair(tree.Rename(t, root(), "b", root(), "a")) },
		func(t api.Tree) []any { return pair(tree.Rename(t, root(), "a", handle(3, 3), "g")) },
		func(t api.Tree) []any { return pair(tree.Rename(t, root(), "a", handle(3, 3), "f")) },
		func(t api.Tree) []any { return pair(tree.Rename(t, root(), "a", root(), "a")) },
		func(t api.Tree) []any { return pair(tree.Rename(t, root(), "d", handle(3, 3), "x")) },
		func(t api.Tree) []any { return pair(tree.Write(t, handle(2, 9), 1, []byte{1})) },
		func(t api.Tree) []any { return pair(tree.Write(t, handle(2, 9), 9, []byte{1})) },
		func(t api.Tree) []any { return pair(tree.Write(t, handle(4, 12), 4, []byte{1})) },
		func(t api.Tree) []any { return pair(tree.Write(t, handle(3, 3), 9, []byte{1})) },
		func(t api.Tree) []any { return pair(tree.Resize(t, handle(2, 9), 3)) },
		func(t api.Tree) []any { return pair(tree.Resize(t, handle(2, 9), 2)) },
		func(t api.Tree) []any { return pair(tree.Resize(t, handle(2, 9), 0)) },
		func(t api.Tree) []any { return pair(tree.Resize(t, handle(2, 9), 99)) },
		func(t api.Tree) []any { return pair(tree.Resize(t, handle(2, 9), 5000)) },
		func(t api.Tree) []any { return node(tree.Lookup(t, root(), "a")) },
		func(t api.Tree) []any { return node(tree.Lookup(t, root(), "d")) },
		func(t api.Tree) []any { n, _ := tree.Find(t, root()); return []any{n} },
		func(t api.Tree) []any { n, _ := tree.Find(t, handle(9, 2)); return []any{n} },
		func(t api.Tree) []any { return []any{tree.Copy(t)} },
		func(t api.Tree) []any { tree.May(t); return nil },
		func(t api.Tree) []any { tree.Same(t, t); return nil },
	}
}

// TestMemory holds that what is handed in stays, the room behind its end too, and that answers are new memory.
func TestMemory(t *testing.T) {
	broken := roomy()
	broken.Nodes[2].Gen = 0
	for i, do := range append(calls(), calls()...) {
		x := roomy()
		if i >= len(calls()) {
			x = broken
		}
		was := whole(x)
		first, again := do(x), do(x)
		if !like(whole(x), was) {
			t.Errorf("%d: what was handed in changed", i)
		}
		if !fill(append(first, again...)...) {
			t.Errorf("%d: two lists of what was answered share memory", i)
		}
		if !like(whole(x), was) {
			t.Errorf("%d: what was answered shares memory with what was handed in", i)
		}
	}
}

// TestRoomIsNotRead holds that what stands behind a file's end is 0 where it grows.
func TestRoomIsNotRead(t *testing.T) {
	x := roomy()
	y, _ := tree.Resize(x, handle(2, 9), 200)
	z, _ := tree.Write(x, handle(2, 9), 100, []byte{1})
	v, _ := tree.Resize(y, handle(2, 9), 1)
	v, _ = tree.Write(v, handle(2, 9), 3, []byte{2})
	for i, c := range []struct {
		t    api.Tree
		want []byte
	}{
		{y, append([]byte{7, 8, 9}, make([]byte, 197)...)},
		{z, append(append([]byte{7, 8, 9}, make([]byte, 97)...), 1)},
		{v, []byte{7, 0, 0, 2}},
	} {
		if n, _ := tree.Find(c.t, handle(2, 9)); !bytes.Equal(n.Data, c.want) {
			t.Errorf("%d: %v", i, n.Data)
		}
	}
}

func TestDataStays(t *testing.T) {
	room := bytes.Repeat([]byte{6}, 100)
	y, _ := tree.Write(some(), handle(2, 9), 0, room[:10])
	fill(y)
	tree.Write(some(), handle(2, 9), 0, room)
	if !bytes.Equal(room, bytes.Repeat([]byte{6}, 100)) {
		t.Errorf("bytes that were handed in became %v", room)
	}
	// The bytes may be those of the file itself.
	x := some()
	y, s := tree.Write(x, handle(2, 9), 1, x.Nodes[1].Data)
	if s != api.StOK || !bytes.Equal(y.Nodes[1].Data, []byte{7, 7, 8, 9}) || !like(x, some()) {
		t.Errorf("Write of its own bytes: %d, %v", s, y.Nodes[1])
	}
}

// textsOf are the names of a tree.
func textsOf(t api.Tree) []string {
	var l []string
	for _, n := range t.Nodes {
		for _, e := range n.Names {
			l = append(l, e.Name)
		}
	}
	return l
}

func sharesText(a, b string) bool {
	x, y := uintptr(unsafe.Pointer(unsafe.StringData(a))), uintptr(unsafe.Pointer(unsafe.StringData(b)))
	return x < y+uintptr(len(b)) && y < x+uintptr(len(a))
}

// TestNamesAreNew holds that names are new memory, too.
func TestNamesAreNew(t *testing.T) {
	// Names of one byte may stand in the language's own table.
	text := strings.Clone("first second")
	x, n, _ := tree.Make(tree.New(), root(), text[:5], true)
	y, _ := tree.Rename(x, root(), "first", tree.Attr(n).H, "x")
	z, _ := tree.Rename(x, root(), "first", root(), text[6:])
	v := tree.Copy(z)
	w, _ := tree.Find(z, root())
	all := slices.Concat([]string{text}, textsOf(x), textsOf(y), textsOf(z), textsOf(v), []string{w.Names[0].Name})
	for i, a := range all {
		for _, b := range all[:i] {
			if sharesText(a, b) {
				t.Errorf("%q shares memory with %q", a, b)
			}
		}
	}
}

// TestGreatTrees holds that what is far from what may be is told in time.
func TestGreatTrees(t *testing.T) {
	x := some()
	for n := range 1 << 16 {
		x.Nodes = append(x.Nodes, api.Node{Ino: uint32(n + 10), Gen: uint32(n + 13), Dir: true, Names: names("x", n+11)})
	}
	x.LastGen = math.MaxUint32
	y, s := tree.Write(x, handle(2, 9), 0, []byte{1})
	if tree.May(x) || s != api.StArg || !tree.Same(x, y) {
		t.Errorf("a great tree: %d", s)
	}
	x = some()
	for n := range 1 << 16 {
		x.Nodes[6].Names = append(x.Nodes[6].Names, names(strings.Repeat("y", n%40), 2)...)
	}
	if y, s := tree.Rename(x, root(), "a", root(), "b"); s != api.StArg || !tree.Same(x, y) {
		t.Errorf("a great directory: %d", s)
	}
}
