package box_test

import (
	"bytes"
	"encoding/binary"
	"reflect"
	"testing"
	"unsafe"

	"wharfage/api"
	"wharfage/box"
	"wharfage/tree"
)

// plainWhole is what a whole tree is, word by word.
func plainWhole(t api.Tree) bool {
	for _, s := range t.Sessions {
		if len(s.Back) > 4096 {
			return false
		}
		if s.Inc == 0 && s.Seq != 0 || s.Inc == 0 && len(s.Back) != 0 {
			return false
		}
	}
	return tree.May(t)
}

// plainRows lays a tree as rows, whole or not.
func plainRows(t api.Tree) []api.Row {
	var l []api.Row
	put := func(key []byte, value []byte) { l = append(l, api.Row{Key: string(key), Value: value}) }
	for _, n := range t.Nodes {
		v := binary.BigEndian.AppendUint32(nil, n.Gen)
		if n.Dir {
			v = append(v, 1)
		} else {
			v = append(v, 0)
		}
		v = binary.BigEndian.AppendUint64(v, n.Change)
		v = append(v, n.Data...)
		for _, e := range n.Names {
			v = append(v, byte(len(e.Name)))
			v = append(v, e.Name...)
			v = binary.BigEndian.AppendUint32(v, e.Ino)
		}
		put(binary.BigEndian.AppendUint32([]byte("n"), n.Ino), v)
	}
	for i, s := range t.Sessions {
		if s.Inc != 0 {
			v := binary.BigEndian.AppendUint32(nil, s.Inc)
			v = binary.BigEndian.AppendUint64(v, s.Seq)
			put([]byte{'s', byte(i)}, append(v, s.Back...))
		}
	}
	v := binary.BigEndian.AppendUint32(nil, t.LastGen)
	v = binary.BigEndian.AppendUint32(v, t.Boot)
	put([]byte("t"), binary.BigEndian.AppendUint32(v, t.Count))
	return l
}

// plainLoad reads rows, and asks each thing of them where it stands.
func plainLoad(l []api.Row) (api.Tree, bool) {
	var t api.Tree
	for i, r := range l {
		if i > 0 && l[i-1].Key >= r.Key || len(r.Key) == 0 || len(r.Value) > 8192 {
			return api.Tree{}, false
		}
		key, v := []byte(r.Key[1:]), r.Value
		switch {
		case r.Key[0] == 'n' && len(key) == 4 && len(v) >= 13 && v[4] < 2:
			n := api.Node{Ino: binary.BigEndian.Uint32(key), Gen: binary.BigEndian.Uint32(v), Dir: v[4] == 1, Change: binary.BigEndian.Uint64(v[5:])}
			names, is := plainNames(v[13:])
			if n.Dir && !is {
				return api.Tree{}, false
			} else if n.Dir {
				n.Names = names
			} else {
				n.Data = bytes.Clone(v[13:])
			}
			t.Nodes = append(t.Nodes, n)
		case r.Key[0] == 's' && len(key) == 1 && key[0] < 4 && len(v) >= 12 && binary.BigEndian.Uint32(v) > 0:
			t.Sessions[key[0]] = api.Session{Inc: binary.BigEndian.Uint32(v), Seq: binary.BigEndian.Uint64(v[4:]), Back: bytes.Clone(v[12:])}
		case r.Key[0] == 't' && len(key) == 0 && len(v) == 12:
			t.LastGen, t.Boot, t.Count = binary.BigEndian.Uint32(v), binary.BigEndian.Uint32(v[4:]), binary.BigEndian.Uint32(v[8:])
		default:
			return api.Tree{}, false
		}
	}
	if !plainWhole(t) {
		return api.Tree{}, false
	}
	return t, true
}

func plainNames(b []byte) ([]api.Entry, bool) {
	var l []api.Entry
	for len(b) > 0 {
		size := int(b[0])
		if len(b) < 1+size+4 {
			return nil, false
		}
		l = append(l, api.Entry{Name: string(b[1 : 1+size]), Ino: binary.BigEndian.Uint32(b[1+size:])})
		b = b[1+size+4:]
	}
	return l, true
}

// loads holds Load against the plain model, and what is loaded against what is laid of it.
func loads(t *testing.T, what string, l []api.Row) {
	t.Helper()
	was := cloneRows(l)
	want, is := plainLoad(l)
	x, e := box.Load(l)
	switch {
	case !is && (e != api.ErrForm || !isZero(x)):
		t.Fatalf("%s: Load(%x) = %+v, %d", what, l, x, e)
	case is && (e != api.OK || !tree.Same(x, want)):
		t.Fatalf("%s: Load(%x) = %+v, %d, not %+v", what, l, x, e, want)
	}
	if !likeRows(l, was) {
		t.Fatalf("%s: Load changed its rows", what)
	}
	if again, e := box.Rows(x); is && (e != api.OK || !likeRows(again, l)) {
		t.Fatalf("%s: Rows of what was loaded = %x, %d", what, again, e)
	}
}

func isZero(t api.Tree) bool { return reflect.DeepEqual(t, api.Tree{}) }

func likeRows(a, b []api.Row) bool {
	if len(a) != len(b) {
		return false
	}
	for i := range a {
		if a[i].Key != b[i].Key || !bytes.Equal(a[i].Value, b[i].Value) {
			return false
		}
	}
	return true
}

func cloneRows(l []api.Row) []api.Row {
	var out []api.Row
	for _, r := range l {
		out = append(out, api.Row{Key: r.Key, Value: bytes.Clone(r.Value)})
	}
	return out
}

func reversed(l []api.Row) []api.Row {
	var out []api.Row
	for i := range l {
		out = append(out, l[len(l)-1-i])
	}
	return out
}

// area is memory: where it begins, and how long it is, its room too.
type area struct{ from, size uintptr }

func areaOf[T any](l []T) area {
	var x T
	return area{uintptr(unsafe.Pointer(unsafe.SliceData(l))), uintptr(cap(l)) * unsafe.Sizeof(x)}
}

func areaOfText(s string) area {
	return area{uintptr(unsafe.Pointer(unsafe.StringData(s))), uintptr(len(s))}
}

func areasOfTree(t api.Tree) []area {
	l := []area{areaOf(t.Nodes)}
	for _, n := range t.Nodes {
		l = append(l, areaOf(n.Data), areaOf(n.Names))
		for _, e := range n.Names {
			l = append(l, areaOfText(e.Name))
		}
	}
	for _, s := range t.Sessions {
		l = append(l, areaOf(s.Back))
	}
	return l
}

func areasOfRows(l []api.Row) []area {
	out := []area{areaOf(l)}
	for _, r := range l {
		out = append(out, areaOfText(r.Key), areaOf(r.Value))
	}
	return out
}

func meet(a, b area) bool {
	return a.size > 0 && b.size > 0 && a.from < b.from+b.size && b.from < a.from+a.size
}

// TestMemory holds that no list of an answer lies where another one does, or one that was handed in.
func TestMemory(t *testing.T) {
	for i, x := range wholes() {
		l, _ := box.Rows(x)
		again, _ := box.Rows(x)
		y, _ := box.Load(l)
		z, _ := box.Load(l)
		for j, answer := range [][]area{areasOfRows(l), areasOfRows(again), areasOfTree(y), areasOfTree(z)} {
			for k, a := range answer {
				others := append(append([]area{}, answer[:k]...), areasOfTree(x)...)
				if j >= 2 {
					others = append(others, areasOfRows(l)...)
				}
				if j == 1 {
					others = append(others, areasOfRows(l)...)
				}
				if j == 3 {
					others = append(others, areasOfTree(y)...)
				}
				for _, b := range others {
					// Texts of one byte are the runtime's own, all of them.
					if a.size > 1 && meet(a, b) {
						t.Fatalf("tree %d: answer %d: area %d lies in another one", i, j, k)
					}
				}
			}
		}
	}
}

// TestRoom holds that what is handed in stays as it is, the room behind its end too, and that the room counts for nothing.
func TestRoom(t *testing.T) {
	x, l := roomyTree(some()), roomyRows(someRows())
	rows, e := box.Rows(x)
	if e != api.OK || !likeRows(rows, someRows()) {
		t.Errorf("Rows = %x, %d", rows, e)
	}
	y, e := box.Load(l)
	if e != api.OK || !tree.Same(y, some()) {
		t.Errorf("Load = %+v, %d", y, e)
	}
	if !box.Whole(x) || !tree.Same(x, some()) || !likeRows(l, someRows()) {
		t.Errorf("what was handed in is another one")
	}
	for i, r := range l {
		if !isRoom(r.Value) {
			t.Errorf("row %d: its room was written", i)
		}
	}
	for i, n := range x.Nodes {
		if !isRoom(n.Data) || len(n.Names) > 0 && n.Names[:cap(n.Names)][len(n.Names)] != (api.Entry{Name: "z", Ino: 9}) {
			t.Errorf("node %d: its room was written", i)
		}
	}
	for i, s := range x.Sessions {
		if !isRoom(s.Back) {
			t.Errorf("session %d: its room was written", i)
		}
	}
	if x.Nodes[:cap(x.Nodes)][len(x.Nodes)].Ino != 77 || l[:cap(l)][len(l)].Key != "u" {
		t.Errorf("room was written")
	}
}

// roomyBytes are bytes with one of 99 behind their end.
func roomyBytes(b []byte) []byte {
	return append(bytes.Clone(b), 99)[: len(b) : len(b)+1]
}

func isRoom(b []byte) bool { return b[:len(b)+1][len(b)] == 99 }

func roomyTree(t api.Tree) api.Tree {
	for i, n := range t.Nodes {
		t.Nodes[i].Data = roomyBytes(n.Data)
		t.Nodes[i].Names = append(n.Names, api.Entry{Name: "z", Ino: 9})[:len(n.Names)]
	}
	for i, s := range t.Sessions {
		t.Sessions[i].Back = roomyBytes(s.Back)
	}
	t.Nodes = append(t.Nodes, api.Node{Ino: 77})[:len(t.Nodes)]
	return t
}

func roomyRows(l []api.Row) []api.Row {
	for i, r := range l {
		l[i].Value = roomyBytes(r.Value)
	}
	return append(l, api.Row{Key: "u"})[:len(l)]
}

// TestErrorsStay holds that a call that answers an error leaves what it was handed.
func TestErrorsStay(t *testing.T) {
	for i, x := range broken() {
		was := tree.Copy(x)
		box.Rows(x)
		if !tree.Same(x, was) {
			t.Errorf("broken tree %d changed", i)
		}
	}
}
