package serve_test

import (
	"bytes"
	"math"
	"reflect"
	"slices"
	"strings"
	"testing"
	"unsafe"

	"wharfage/api"
	"wharfage/back"
	"wharfage/box"
	"wharfage/call"
	"wharfage/serve"
	"wharfage/tree"
)

func handle(ino, gen uint32) api.Handle { return api.Handle{Ino: ino, Gen: gen} }

func root() api.Handle { return handle(1, 1) }

// names are entries, of names by their numbers.
func names(l ...any) []api.Entry {
	var out []api.Entry
	for two := range slices.Chunk(l, 2) {
		out = append(out, api.Entry{Name: two[0].(string), Ino: uint32(two[1].(int))})
	}
	return out
}

// counted are the bytes 0, 1, 2 and so on.
func counted(many int) []byte {
	var b []byte
	for n := range many {
		b = append(b, byte(n))
	}
	return b
}

// some is a whole tree, of numbers all unlike: files a, b, d/f; directories d, d/e, d/e/i, g. No node has the Ino 8, the client 0 no session.
func some() api.Tree {
	return api.Tree{
		Nodes: []api.Node{
			{Ino: 1, Gen: 1, Dir: true, Change: 1<<32 + 10, Names: names("a", 2, "b", 9, "d", 3, "g", 7)},
			{Ino: 2, Gen: 9, Change: 2<<32 + 77, Data: []byte{7, 8, 9}},
			{Ino: 3, Gen: 3, Dir: true, Change: 2<<32 + 12, Names: names("e", 5, "f", 4)},
			{Ino: 4, Gen: 12, Change: 0},
			{Ino: 5, Gen: 4, Dir: true, Change: 1<<32 + 14, Names: names("i", 6)},
			{Ino: 6, Gen: 5, Dir: true, Change: 15},
			{Ino: 7, Gen: 6, Dir: true, Change: 2<<32 + 16},
			{Ino: 9, Gen: 2, Change: 2<<32 + 17, Data: counted(100)},
		},
		LastGen: 12, Boot: 2, Count: 77,
		Sessions: [4]api.Session{{}, {Inc: 3, Seq: 4, Back: []byte{1, 2, 3}}, {Inc: 5}, {Inc: 7, Seq: 6, Back: []byte{4}}},
	}
}

// with is some, changed.
func with(do func(t *api.Tree)) api.Tree {
	t := some()
	do(&t)
	return t
}

// entries are so many names of a length, of nodes from a number on.
func entries(many, length int, ino uint32) []api.Entry {
	var l []api.Entry
	for n := range many {
		l = append(l, api.Entry{Name: strings.Repeat("n", length-2) + string([]byte{'0' + byte(n/10), '0' + byte(n%10)}), Ino: ino + uint32(n)})
	}
	return l
}

// full is a tree at each limit: MaxNodes nodes, in two directories of the longest names, all files of MaxFile bytes, replies of MaxMessage.
func full() api.Tree {
	t := api.Tree{LastGen: 64, Boot: 1 << 31, Count: 9}
	for n := range uint32(64) {
		x := api.Node{Ino: n + 1, Gen: n + 1, Change: 1<<63 + 9, Data: bytes.Repeat([]byte{byte(n)}, 4096)}
		if n < 2 {
			x.Dir, x.Data, x.Names = true, nil, entries(32-int(n), 32, 2+32*n)
		}
		t.Nodes = append(t.Nodes, x)
	}
	for i := range t.Sessions {
		t.Sessions[i] = api.Session{Inc: math.MaxUint32, Seq: math.MaxUint64, Back: bytes.Repeat([]byte{byte(i)}, 4096)}
	}
	return t
}

// broken are trees that are not whole: of some of them tree says that they may be.
func broken() []api.Tree {
	return []api.Tree{
		{},
		with(func(t *api.Tree) { t.Sessions[0].Seq = 1 }),
		with(func(t *api.Tree) { t.Sessions[2] = api.Session{Back: []byte{0}} }),
		with(func(t *api.Tree) { t.Sessions[1].Inc = 0 }),
		with(func(t *api.Tree) { t.Sessions[3].Back = make([]byte, 4097) }),
		with(func(t *api.Tree) { t.Boot = 0 }),
		with(func(t *api.Tree) { t.Boot = 1<<31 + 1 }),
		with(func(t *api.Tree) { t.LastGen = 11 }),
		with(func(t *api.Tree) { t.Count = 76 }),
		with(func(t *api.Tree) { t.Nodes = t.Nodes[1:] }),
		with(func(t *api.Tree) { t.Nodes[0].Names = t.Nodes[0].Names[1:] }),
		with(func(t *api.Tree) { t.Nodes[6].Names = names("x", 8) }),
		with(func(t *api.Tree) { t.Nodes[3].Data = make([]byte, 4097) }),
		with(func(t *api.Tree) { t.Nodes[0].Names[3].Name = "" }),
	}
}

// plainOne does a call that may be to a whole tree, row by row of the chapter's table.
func plainOne(t api.Tree, c api.Call) (api.Tree, api.Back) {
	at, there := tree.Find(t, c.H)
	next, r, told := t, api.Back{}, c.H
	switch c.Kind {
	case api.DoGetattr, api.DoCommit, api.DoRead, api.DoReaddir:
		switch {
		case !there:
			r.Status = api.StStale
		case at.Dir && (c.Kind == api.DoCommit || c.Kind == api.DoRead):
			r.Status = api.StIsDir
		case !at.Dir && c.Kind == api.DoReaddir:
			r.Status = api.StNotDir
		}
	case api.DoLookup:
		var n api.Node
		n, r.Status = tree.Lookup(t, c.H, c.Name)
		told = handle(n.Ino, n.Gen)
	case api.DoSetSize:
		next, r.Status = tree.Resize(t, c.H, c.Size)
	case api.DoWrite:
		next, r.Status = tree.Write(t, c.H, c.Off, c.Data)
	case api.DoCreate, api.DoMkdir:
		var n api.Node
		next, n, r.Status = tree.Make(t, c.H, c.Name, c.Kind == api.DoMkdir)
		told = handle(n.Ino, n.Gen)
	case api.DoRemove, api.DoRmdir:
		next, r.Status = tree.Remove(t, c.H, c.Name, c.Kind == api.DoRmdir)
	case api.DoRename:
		next, r.Status = tree.Rename(t, c.H, c.Name, c.To, c.ToName)
		told = c.To
	}
	if call.Changes(c.Kind) && c.Kind != api.DoCommit && r.Status == api.StOK || c.Kind == api.DoLookup && (r.Status == api.StOK || r.Status == api.StNone) {
		r.Before = at.Change
	}
	if r.Status == api.StOK {
		n, _ := tree.Find(next, told)
		r.Attr = tree.Attr(n)
	}
	if r.Status == api.StOK && c.Kind == api.DoRead {
		for i, b := range at.Data {
			if i >= int(c.Off) && i < int(c.Off)+int(c.Size) {
				r.Data = append(r.Data, b)
			}
		}
	}
	if r.Status == api.StOK && c.Kind == api.DoReaddir {
		for _, e := range at.Names {
			r.Names = append(r.Names, e.Name)
		}
	}
	r.Client, r.Inc, r.Seq, r.Boot = c.Client, c.Inc, c.Seq, t.Boot
	return next, r
}

// isKept tells whether what calls of a kind do is to be sure.
func isKept(kind uint8) bool {
	return slices.Contains([]uint8{api.DoSetSize, api.DoCommit, api.DoCreate, api.DoMkdir, api.DoRemove, api.DoRmdir, api.DoRename}, kind)
}

// plainDo does what comes to a server.
func plainDo(t api.Tree, b []byte) (api.Tree, []byte, bool) {
	c, e := call.Get(b)
	if e != api.OK || !box.Whole(t) {
		return t, nil, false
	}
	s := t.Sessions[c.Client]
	if c.Inc < s.Inc {
		return t, nil, false
	}
	if c.Inc == s.Inc && c.Seq < s.Seq {
		return t, nil, false
	}
	if c.Inc == s.Inc && c.Seq == s.Seq {
		return t, s.Back, false
	}
	next, r := plainOne(t, c)
	out, e := back.Put(r)
	if e != api.OK {
		panic("a reply that may not be")
	}
	next.Sessions[c.Client] = api.Session{Inc: c.Inc, Seq: c.Seq, Back: out}
	return next, out, isKept(c.Kind)
}

// even is a reply whose lists without elements are nil.
func even(r api.Back) api.Back {
	if len(r.Data) == 0 {
		r.Data = nil
	}
	if len(r.Names) == 0 {
		r.Names = nil
	}
	return r
}

// like tells whether two replies have the same in each field, by the library's own comparing.
func like(a, b api.Back) bool { return reflect.DeepEqual(even(a), even(b)) }

// put is a call's bytes.
func put(c api.Call) []byte {
	b, e := call.Put(c)
	if e != api.OK {
		panic("a call that may not be")
	}
	return b
}

// does holds Do and One against the plain model, and tells what Do told.
func does(t *testing.T, x api.Tree, c api.Call) (api.Tree, []byte, bool) {
	t.Helper()
	was := tree.Copy(x)
	want, wantBack := plainOne(x, c)
	y, r := serve.One(x, c)
	if !tree.Same(y, want) || !like(r, wantBack) {
		t.Fatalf("One(%+v) = %+v, %+v; want %+v", c, y, r, wantBack)
	}
	b := put(c)
	want, wantOut, wantKept := plainDo(x, b)
	y, out, kept := serve.Do(x, b)
	if !tree.Same(y, want) || !bytes.Equal(out, wantOut) || kept != wantKept {
		t.Fatalf("Do(%+v) = %+v, %x, %t; want %x, %t", c, y, out, kept, wantOut, wantKept)
	}
	if !box.Whole(y) {
		t.Fatalf("Do(%+v): the tree behind it is not whole", c)
	}
	if !tree.Same(x, was) || !bytes.Equal(b, put(c)) {
		t.Fatalf("Do(%+v) changed what it was handed", c)
	}
	return y, out, kept
}

// area is memory: where it begins, and how long it is, its room too.
type area struct{ from, size uintptr }

func areaOf[T any](l []T) area {
	var x T
	return area{uintptr(unsafe.Pointer(unsafe.SliceData(l))), uintptr(cap(l)) * unsafe.Sizeof(x)}
}

func areaOfText(s string) area {
	return area{uintptr(unsafe.Pointer(unsafe.StringData(s))), uintptr(len(s))}
}

func areasOfTree(t api.Tree) []area {
	l := []area{areaOf(t.Nodes)}
	for _, n := range t.Nodes {
		l = append(l, areaOf(n.Data), areaOf(n.Names))
		for _, e := range n.Names {
			l = append(l, areaOfText(e.Name))
		}
	}
	for _, s := range t.Sessions {
		l = append(l, areaOf(s.Back))
	}
	return l
}

func areasOfBack(r api.Back) []area {
	l := []area{areaOf(r.Data), areaOf(r.Names)}
	for _, s := range r.Names {
		l = append(l, areaOfText(s))
	}
	return l
}

func areasOfCall(c api.Call) []area {
	return []area{areaOf(c.Data), areaOfText(c.Name), areaOfText(c.ToName)}
}

// meet tells whether two of some areas lie in one another, but for texts of one byte: these are the runtime's own, all of them.
func meet(l []area) bool {
	for i, a := range l {
		for _, b := range l[:i] {
			if a.size > 1 && b.size > 1 && a.from < b.from+b.size && b.from < a.from+a.size {
				return true
			}
		}
	}
	return false
}
