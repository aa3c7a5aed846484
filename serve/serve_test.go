package serve_test

import (
	"bytes"
	"encoding/hex"
	"fmt"
	"math"
	"math/rand"
	"slices"
	"strings"
	"testing"

	"wharfage/api"
	"wharfage/back"
	"wharfage/box"
	"wharfage/call"
	"wharfage/serve"
	"wharfage/tree"
)

// now is the Change that the next change of some makes.
const now = 2<<32 + 78

// head is a call of numbers that are all unlike, of the client that has no session in some.
func head(c api.Call) api.Call {
	c.Client, c.Inc, c.Seq = 0, 0x01020304, 0x05060708090a0b0c
	return c
}

// TestExamples holds the chapter's table of examples, in its order.
func TestExamples(t *testing.T) {
	if x, out, kept := serve.Do(tree.New(), nil); len(out) > 0 || kept || !tree.Same(x, tree.New()) {
		t.Errorf("Do(New, none) = %x, %t", out, kept)
	}
	create := api.Call{Inc: 1, Seq: 1, Kind: api.DoCreate, H: root(), Name: "a"}
	x, first, kept := serve.Do(tree.New(), put(create))
	if !kept || len(x.Nodes) != 2 {
		t.Errorf("Do(DoCreate a) = %+v, %t", x, kept)
	}
	if y, out, kept := serve.Do(x, put(create)); !bytes.Equal(out, first) || kept || !tree.Same(x, y) {
		t.Errorf("Do(the same) = %x, %t", out, kept)
	}
	// A call of the Seq 0 may not be: its bytes are laid by hand.
	none := put(create)
	none[15] = 0
	if y, out, kept := serve.Do(x, none); len(out) > 0 || kept || !tree.Same(x, y) {
		t.Errorf("Do(Seq 0) = %x, %t", out, kept)
	}
	_, r := serve.One(tree.New(), api.Call{Inc: 1, Seq: 1, Kind: api.DoLookup, H: root(), Name: "b"})
	if r.Status != api.StNone || r.Before != 1<<32+1 {
		t.Errorf("One(DoLookup b) = %+v", r)
	}
}

// TestBytes holds a reply's bytes, digit by digit.
func TestBytes(t *testing.T) {
	want := "00000000 01020304 05060708090a0b0c 00000000 00000002 00000003 00000003 00000001 00000002 000000020000000c 0000000000000000 00000000 00000002 00000001 65000000 00000001 66000000"
	x, out, kept := serve.Do(some(), put(head(api.Call{Kind: api.DoReaddir, H: handle(3, 3)})))
	if hex.EncodeToString(out) != strings.ReplaceAll(want, " ", "") || kept {
		t.Errorf("Do = %x, %t", out, kept)
	}
	if s := x.Sessions[0]; s.Inc != 0x01020304 || s.Seq != 0x05060708090a0b0c || !bytes.Equal(s.Back, out) {
		t.Errorf("session: %+v", s)
	}
}

// deed is a call, what is told of it, and what it makes of the tree; of some, where it has no tree.
type deed struct {
	on   *api.Tree
	c    api.Call
	want api.Back
	make func(t *api.Tree)
}

// changed raises the count of a tree whose Count is 77, and makes nodes change.
func changed(t *api.Tree, at ...int) {
	t.Count = 78
	for _, i := range at {
		t.Nodes[i].Change = now
	}
}

func asks() []deed {
	a, b, d, f, g := handle(2, 9), handle(9, 2), handle(3, 3), handle(4, 12), handle(7, 6)
	ofA, ofB := api.Attr{H: a, Size: 3, Change: 2<<32 + 77}, api.Attr{H: b, Size: 100, Change: 2<<32 + 17}
	ofD, ofF := api.Attr{H: d, Dir: true, Size: 2, Change: 2<<32 + 12}, api.Attr{H: f}
	ofRoot := api.Attr{H: root(), Dir: true, Size: 4, Change: 1<<32 + 10}
	return []deed{
		{c: api.Call{Kind: api.DoGetattr, H: a}, want: api.Back{Attr: ofA}},
		{c: api.Call{Kind: api.DoGetattr, H: f}, want: api.Back{Attr: ofF}},
		{c: api.Call{Kind: api.DoGetattr, H: root()}, want: api.Back{Attr: ofRoot}},
		{c: api.Call{Kind: api.DoGetattr, H: handle(2, 8)}, want: api.Back{Status: api.StStale}},
		{c: api.Call{Kind: api.DoGetattr}, want: api.Back{Status: api.StStale}},
		{c: api.Call{Kind: api.DoLookup, H: root(), Name: "a"}, want: api.Back{Attr: ofA, Before: 1<<32 + 10}},
		{c: api.Call{Kind: api.DoLookup, H: root(), Name: "d"}, want: api.Back{Attr: ofD, Before: 1<<32 + 10}},
		{c: api.Call{Kind: api.DoLookup, H: d, Name: "f"}, want: api.Back{Attr: ofF, Before: 2<<32 + 12}},
		{c: api.Call{Kind: api.DoLookup, H: root(), Name: "c"}, want: api.Back{Status: api.StNone, Before: 1<<32 + 10}},
		{c: api.Call{Kind: api.DoLookup, H: g, Name: "a"}, want: api.Back{Status: api.StNone, Before: 2<<32 + 16}},
		{c: api.Call{Kind: api.DoLookup, H: a, Name: "a"}, want: api.Back{Status: api.StNotDir}},
		{c: api.Call{Kind: api.DoLookup, H: handle(8, 1), Name: "a"}, want: api.Back{Status: api.StStale}},
		{c: api.Call{Kind: api.DoRead, H: a, Size: 64}, want: api.Back{Attr: ofA, Data: []byte{7, 8, 9}}},
		{c: api.Call{Kind: api.DoRead, H: a, Off: 1, Size: 1}, want: api.Back{Attr: ofA, Data: []byte{8}}},
		{c: api.Call{Kind: api.DoRead, H: a, Off: 1, Size: 2}, want: api.Back{Attr: ofA, Data: []byte{8, 9}}},
		{c: api.Call{Kind: api.DoRead, H: a, Off: 2, Size: 2}, want: api.Back{Attr: ofA, Data: []byte{9}}},
		{c: api.Call{Kind: api.DoRead, H: a, Off: 3, Size: 2}, want: api.Back{Attr: ofA}},
		{c: api.Call{Kind: api.DoRead, H: a, Off: 4096, Size: 64}, want: api.Back{Attr: ofA}},
		{c: api.Call{Kind: api.DoRead, H: a}, want: api.Back{Attr: ofA}},
		{c: api.Call{Kind: api.DoRead, H: b, Off: 20, Size: 64}, want: api.Back{Attr: ofB, Data: counted(84)[20:]}},
		{c: api.Call{Kind: api.DoRead, H: b, Off: 99, Size: 64}, want: api.Back{Attr: ofB, Data: []byte{99}}},
		{c: api.Call{Kind: api.DoRead, H: f, Size: 64}, want: api.Back{Attr: ofF}},
		{c: api.Call{Kind: api.DoRead, H: d, Size: 64}, want: api.Back{Status: api.StIsDir}},
		{c: api.Call{Kind: api.DoRead, H: handle(3, 2), Size: 64}, want: api.Back{Status: api.StStale}},
		{c: api.Call{Kind: api.DoReaddir, H: root()}, want: api.Back{Attr: ofRoot, Names: []string{"a", "b", "d", "g"}}},
		{c: api.Call{Kind: api.DoReaddir, H: d}, want: api.Back{Attr: ofD, Names: []string{"e", "f"}}},
		{c: api.Call{Kind: api.DoReaddir, H: g}, want: api.Back{Attr: api.Attr{H: g, Dir: true, Change: 2<<32 + 16}}},
		{c: api.Call{Kind: api.DoReaddir, H: a}, want: api.Back{Status: api.StNotDir}},
		{c: api.Call{Kind: api.DoReaddir, H: handle(1, 2)}, want: api.Back{Status: api.StStale}},
		{c: api.Call{Kind: api.DoCommit, H: a}, want: api.Back{Attr: ofA}},
		{c: api.Call{Kind: api.DoCommit, H: f}, want: api.Back{Attr: ofF}},
		{c: api.Call{Kind: api.DoCommit, H: d}, want: api.Back{Status: api.StIsDir}},
		{c: api.Call{Kind: api.DoCommit, H: handle(9, 9)}, want: api.Back{Status: api.StStale}},
	}
}

func writes() []deed {
	a, d, f := handle(2, 9), handle(3, 3), handle(4, 12)
	noCount := with(func(t *api.Tree) { t.Count = 1 << 31 })
	return []deed{
		{c: api.Call{Kind: api.DoSetSize, H: a, Size: 2}, want: api.Back{Attr: api.Attr{H: a, Size: 2, Change: now}, Before: 2<<32 + 77},
			make: func(t *api.Tree) { t.Nodes[1].Data = []byte{7, 8}; changed(t, 1) }},
		{c: api.Call{Kind: api.DoSetSize, H: a, Size: 3}, want: api.Back{Attr: api.Attr{H: a, Size: 3, Change: now}, Before: 2<<32 + 77},
			make: func(t *api.Tree) { changed(t, 1) }},
		{c: api.Call{Kind: api.DoSetSize, H: a}, want: api.Back{Attr: api.Attr{H: a, Change: now}, Before: 2<<32 + 77},
			make: func(t *api.Tree) { t.Nodes[1].Data = nil; changed(t, 1) }},
		{c: api.Call{Kind: api.DoSetSize, H: f, Size: 4096}, want: api.Back{Attr: api.Attr{H: f, Size: 4096, Change: now}},
			make: func(t *api.Tree) { t.Nodes[3].Data = make([]byte, 4096); changed(t, 3) }},
		{c: api.Call{Kind: api.DoSetSize, H: d, Size: 2}, want: api.Back{Status: api.StIsDir}},
		{c: api.Call{Kind: api.DoSetSize, H: handle(2, 10), Size: 2}, want: api.Back{Status: api.StStale}},
		{on: &noCount, c: api.Call{Kind: api.DoSetSize, H: a, Size: 2}, want: api.Back{Status: api.StSpace}},
		{c: api.Call{Kind: api.DoWrite, H: a, Off: 1, Data: []byte{5, 6, 7}}, want: api.Back{Attr: api.Attr{H: a, Size: 4, Change: now}, Before: 2<<32 + 77},
			make: func(t *api.Tree) { t.Nodes[1].Data = []byte{7, 5, 6, 7}; changed(t, 1) }},
		{c: api.Call{Kind: api.DoWrite, H: a, Off: 0, Data: []byte{4}}, want: api.Back{Attr: api.Attr{H: a, Size: 3, Change: now}, Before: 2<<32 + 77},
			make: func(t *api.Tree) { t.Nodes[1].Data = []byte{4, 8, 9}; changed(t, 1) }},
		{c: api.Call{Kind: api.DoWrite, H: f, Off: 4032, Data: counted(64)}, want: api.Back{Attr: api.Attr{H: f, Size: 4096, Change: now}},
			make: func(t *api.Tree) { t.Nodes[3].Data = append(make([]byte, 4032), counted(64)...); changed(t, 3) }},
		{c: api.Call{Kind: api.DoWrite, H: root(), Data: []byte{1}}, want: api.Back{Status: api.StIsDir}},
		{c: api.Call{Kind: api.DoWrite, H: handle(8, 0), Data: []byte{1}}, want: api.Back{Status: api.StStale}},
		{on: &noCount, c: api.Call{Kind: api.DoWrite, H: a, Data: []byte{1}}, want: api.Back{Status: api.StSpace}},
	}
}

func makes() []deed {
	d, g, made := handle(3, 3), handle(7, 6), handle(8, 13)
	lastGen, great := with(func(t *api.Tree) { t.LastGen = 1 << 31 }), full()
	made8 := func(dir bool, in int, l []api.Entry) func(t *api.Tree) {
		return func(t *api.Tree) {
			t.Nodes[in].Names, t.LastGen = l, 13
			t.Nodes = slices.Insert(t.Nodes, 7, api.Node{Ino: 8, Gen: 13, Dir: dir})
			changed(t, in, 7)
		}
	}
	return []deed{
		{c: api.Call{Kind: api.DoCreate, H: root(), Name: "c"}, want: api.Back{Attr: api.Attr{H: made, Change: now}, Before: 1<<32 + 10},
			make: made8(false, 0, names("a", 2, "b", 9, "c", 8, "d", 3, "g", 7))},
		{c: api.Call{Kind: api.DoCreate, H: g, Name: "a"}, want: api.Back{Attr: api.Attr{H: made, Change: now}, Before: 2<<32 + 16},
			make: made8(false, 6, names("a", 8))},
		{c: api.Call{Kind: api.DoMkdir, H: d, Name: "x"}, want: api.Back{Attr: api.Attr{H: made, Dir: true, Change: now}, Before: 2<<32 + 12},
			make: made8(true, 2, names("e", 5, "f", 4, "x", 8))},
		{c: api.Call{Kind: api.DoCreate, H: root(), Name: "a"}, want: api.Back{Status: api.StExist}},
		{c: api.Call{Kind: api.DoCreate, H: root(), Name: "d"}, want: api.Back{Status: api.StExist}},
		{c: api.Call{Kind: api.DoMkdir, H: root(), Name: "d"}, want: api.Back{Status: api.StExist}},
		{c: api.Call{Kind: api.DoCreate, H: handle(2, 9), Name: "x"}, want: api.Back{Status: api.StNotDir}},
		{c: api.Call{Kind: api.DoMkdir, H: handle(2, 9), Name: "x"}, want: api.Back{Status: api.StNotDir}},
		{c: api.Call{Kind: api.DoCreate, H: handle(2, 2), Name: "x"}, want: api.Back{Status: api.StStale}},
		{c: api.Call{Kind: api.DoMkdir, H: handle(2, 2), Name: "x"}, want: api.Back{Status: api.StStale}},
		{on: &lastGen, c: api.Call{Kind: api.DoCreate, H: root(), Name: "x"}, want: api.Back{Status: api.StSpace}},
		{on: &lastGen, c: api.Call{Kind: api.DoMkdir, H: root(), Name: "x"}, want: api.Back{Status: api.StSpace}},
		{on: &great, c: api.Call{Kind: api.DoCreate, H: handle(2, 2), Name: "x"}, want: api.Back{Status: api.StSpace}},
	}
}

func removes() []deed {
	a, d, e, g := handle(2, 9), handle(3, 3), handle(5, 4), handle(7, 6)
	noCount := with(func(t *api.Tree) { t.Count = 1 << 31 })
	return []deed{
		{c: api.Call{Kind: api.DoRemove, H: root(), Name: "a"}, want: api.Back{Attr: api.Attr{H: root(), Dir: true, Size: 3, Change: now}, Before: 1<<32 + 10},
			make: func(t *api.Tree) {
				t.Nodes[0].Names = names("b", 9, "d", 3, "g", 7)
				t.Nodes = slices.Delete(t.Nodes, 1, 2)
				changed(t, 0)
			}},
		{c: api.Call{Kind: api.DoRemove, H: d, Name: "f"}, want: api.Back{Attr: api.Attr{H: d, Dir: true, Size: 1, Change: now}, Before: 2<<32 + 12},
			make: func(t *api.Tree) {
				t.Nodes[2].Names = names("e", 5)
				t.Nodes = slices.Delete(t.Nodes, 3, 4)
				changed(t, 2)
			}},
		{c: api.Call{Kind: api.DoRmdir, H: e, Name: "i"}, want: api.Back{Attr: api.Attr{H: e, Dir: true, Change: now}, Before: 1<<32 + 14},
			make: func(t *api.Tree) {
				t.Nodes[4].Names = nil
				t.Nodes = slices.Delete(t.Nodes, 5, 6)
				changed(t, 4)
			}},
		{c: api.Call{Kind: api.DoRemove, H: root(), Name: "g"}, want: api.Back{Status: api.StIsDir}},
		{c: api.Call{Kind: api.DoRmdir, H: root(), Name: "a"}, want: api.Back{Status: api.StNotDir}},
		{c: api.Call{Kind: api.DoRmdir, H: root(), Name: "d"}, want: api.Back{Status: api.StNotEmpty}},
		{c: api.Call{Kind: api.DoRemove, H: root(), Name: "x"}, want: api.Back{Status: api.StNone}},
		{c: api.Call{Kind: api.DoRmdir, H: g, Name: "x"}, want: api.Back{Status: api.StNone}},
		{c: api.Call{Kind: api.DoRemove, H: a, Name: "x"}, want: api.Back{Status: api.StNotDir}},
		{c: api.Call{Kind: api.DoRmdir, H: a, Name: "x"}, want: api.Back{Status: api.StNotDir}},
		{c: api.Call{Kind: api.DoRemove, H: handle(0, 1), Name: "a"}, want: api.Back{Status: api.StStale}},
		{c: api.Call{Kind: api.DoRmdir, H: handle(1, 0), Name: "g"}, want: api.Back{Status: api.StStale}},
		{on: &noCount, c: api.Call{Kind: api.DoRemove, H: root(), Name: "a"}, want: api.Back{Status: api.StSpace}},
		{on: &noCount, c: api.Call{Kind: api.DoRmdir, H: root(), Name: "g"}, want: api.Back{Status: api.StSpace}},
	}
}

func renames() []deed {
	a, d, e, g := handle(2, 9), handle(3, 3), handle(5, 4), handle(7, 6)
	noCount := with(func(t *api.Tree) { t.Count = 1 << 31 })
	to := func(h api.Handle, name string, to api.Handle, toName string) api.Call {
		return api.Call{Kind: api.DoRename, H: h, Name: name, To: to, ToName: toName}
	}
	return []deed{
		{c: to(root(), "a", root(), "c"), want: api.Back{Attr: api.Attr{H: root(), Dir: true, Size: 4, Change: now}, Before: 1<<32 + 10},
			make: func(t *api.Tree) { t.Nodes[0].Names = names("b", 9, "c", 2, "d", 3, "g", 7); changed(t, 0) }},
		{c: to(root(), "a", g, "x"), want: api.Back{Attr: api.Attr{H: g, Dir: true, Size: 1, Change: now}, Before: 1<<32 + 10},
			make: func(t *api.Tree) {
				t.Nodes[0].Names, t.Nodes[6].Names = names("b", 9, "d", 3, "g", 7), names("x", 2)
				changed(t, 0, 6)
			}},
		{c: to(d, "e", root(), "g"), want: api.Back{Attr: api.Attr{H: root(), Dir: true, Size: 4, Change: now}, Before: 2<<32 + 12},
			make: func(t *api.Tree) {
				t.Nodes[0].Names, t.Nodes[2].Names = names("a", 2, "b", 9, "d", 3, "g", 5), names("f", 4)
				changed(t, 0, 2)
				t.Nodes = slices.Delete(t.Nodes, 6, 7)
			}},
		{c: to(root(), "b", d, "f"), want: api.Back{Attr: api.Attr{H: d, Dir: true, Size: 2, Change: now}, Before: 1<<32 + 10},
			make: func(t *api.Tree) {
				t.Nodes[0].Names, t.Nodes[2].Names = names("a", 2, "d", 3, "g", 7), names("e", 5, "f", 9)
				changed(t, 0, 2)
				t.Nodes = slices.Delete(t.Nodes, 3, 4)
			}},
		{c: to(d, "f", d, "f"), want: api.Back{Attr: api.Attr{H: d, Dir: true, Size: 2, Change: 2<<32 + 12}, Before: 2<<32 + 12}},
		{on: &noCount, c: to(root(), "a", root(), "a"), want: api.Back{Attr: api.Attr{H: root(), Dir: true, Size: 4, Change: 1<<32 + 10}, Before: 1<<32 + 10}},
		{on: &noCount, c: to(root(), "a", root(), "c"), want: api.Back{Status: api.StSpace}},
		{c: to(root(), "d", d, "x"), want: api.Back{Status: api.StLoop}},
		{c: to(root(), "d", e, "x"), want: api.Back{Status: api.StLoop}},
		{c: to(root(), "g", root(), "d"), want: api.Back{Status: api.StNotEmpty}},
		{c: to(root(), "g", root(), "a"), want: api.Back{Status: api.StNotDir}},
		{c: to(root(), "a", root(), "g"), want: api.Back{Status: api.StIsDir}},
		{c: to(root(), "x", root(), "a"), want: api.Back{Status: api.StNone}},
		{c: to(a, "x", root(), "a"), want: api.Back{Status: api.StNotDir}},
		{c: to(root(), "a", a, "x"), want: api.Back{Status: api.StNotDir}},
		{c: to(handle(1, 9), "a", root(), "x"), want: api.Back{Status: api.StStale}},
		{c: to(root(), "a", handle(7, 7), "x"), want: api.Back{Status: api.StStale}},
	}
}

// TestDeeds holds the chapter's table: what each kind does, and each status that it can have.
func TestDeeds(t *testing.T) {
	for i, c := range slices.Concat(asks(), writes(), makes(), removes(), renames()) {
		x := some()
		if c.on != nil {
			x = *c.on
		}
		c.c = head(c.c)
		// The great tree's client 0 is at its end.
		if x.Sessions[0].Inc != 0 {
			x.Sessions[0] = api.Session{}
		}
		want := tree.Copy(x)
		if c.make != nil {
			c.make(&want)
		}
		c.want.Client, c.want.Inc, c.want.Seq, c.want.Boot = 0, 0x01020304, 0x05060708090a0b0c, x.Boot
		y, r := serve.One(x, c.c)
		if !like(r, c.want) || !tree.Same(y, want) {
			t.Errorf("%d: One(%+v) = %+v, %+v; want %+v", i, c.c, y, r, c.want)
		}
		y, out, kept := does(t, x, c.c)
		want.Sessions[0] = api.Session{Inc: 0x01020304, Seq: 0x05060708090a0b0c, Back: out}
		if r, e := back.Get(out); e != api.OK || !like(r, c.want) || !tree.Same(y, want) || kept != isKept(c.c.Kind) {
			t.Errorf("%d: Do(%+v) = %+v, %+v, %t", i, c.c, y, r, kept)
		}
	}
}

// TestHead holds that a reply has the call's numbers, and the server's Boot.
func TestHead(t *testing.T) {
	for client := range uint8(4) {
		for _, inc := range []uint32{8, 0x01020304, math.MaxInt32, 1 << 31, math.MaxUint32} {
			for _, seq := range []uint64{1, 0x05060708090a0b0c, math.MaxUint32, 1 << 32, 1 << 63, math.MaxUint64} {
				for _, boot := range []uint32{2, 0x01020304, 1 << 31} {
					x := with(func(t *api.Tree) { t.Boot = boot })
					y, out, _ := does(t, x, api.Call{Client: client, Inc: inc, Seq: seq, Kind: api.DoGetattr, H: handle(8, 8)})
					want := api.Back{Client: client, Inc: inc, Seq: seq, Status: api.StStale, Boot: boot}
					if r, e := back.Get(out); e != api.OK || !like(r, want) {
						t.Errorf("Do = %+v; want %+v", r, want)
					}
					x.Sessions[client] = api.Session{Inc: inc, Seq: seq, Back: out}
					if !tree.Same(x, y) {
						t.Errorf("the client %d: %+v", client, y.Sessions)
					}
				}
			}
		}
	}
}

// TestSession goes through calls below, at and above the session of each client.
func TestSession(t *testing.T) {
	incs := []uint32{1, 2, 3, 1<<31 - 1, 1 << 31, 1<<31 + 1, math.MaxUint32 - 1, math.MaxUint32}
	seqs := []uint64{1, 2, 3, 1<<32 - 1, 1 << 32, 1<<32 + 1, 1<<63 - 1, 1 << 63, 1<<63 + 1, math.MaxUint64 - 1, math.MaxUint64}
	for client := range uint8(4) {
		for _, inc := range incs {
			for _, seq := range append([]uint64{0}, seqs...) {
				x := with(func(t *api.Tree) { t.Sessions[client] = api.Session{Inc: inc, Seq: seq, Back: []byte{7, client}} })
				for _, c := range []api.Call{{Client: client, Kind: api.DoMkdir, H: root(), Name: "c"}, {Client: client, Kind: api.DoGetattr, H: root()}} {
					for _, c.Inc = range incs {
						for _, c.Seq = range seqs {
							turn(t, x, c)
						}
					}
				}
			}
		}
	}
}

// turn holds what comes of a call that finds a session whose Back is 7 and the client.
func turn(t *testing.T, x api.Tree, c api.Call) {
	t.Helper()
	s := x.Sessions[c.Client]
	y, out, kept := serve.Do(x, put(c))
	switch {
	case c.Inc < s.Inc || c.Inc == s.Inc && c.Seq < s.Seq:
		if len(out) > 0 || kept || !tree.Same(x, y) {
			t.Errorf("%+v on %+v: %x, %t", c, s, out, kept)
		}
	case c.Inc == s.Inc && c.Seq == s.Seq:
		if !bytes.Equal(out, []byte{7, c.Client}) || kept || !tree.Same(x, y) {
			t.Errorf("%+v on %+v: %x, %t", c, s, out, kept)
		}
	default:
		made := 0
		if c.Kind == api.DoMkdir {
			made = 1
		}
		want := api.Session{Inc: c.Inc, Seq: c.Seq, Back: out}
		if len(out) < 64 || kept != (made == 1) || len(y.Nodes) != len(x.Nodes)+made || fmt.Sprint(y.Sessions[c.Client]) != fmt.Sprint(want) {
			t.Errorf("%+v on %+v: %x, %t", c, s, out, kept)
		}
	}
}

// TestSameNumbers holds that a call's numbers alone tell that it was done, whatever else it has; and that a reply of no bytes is told again as such.
func TestSameNumbers(t *testing.T) {
	x, first, _ := serve.Do(some(), put(head(api.Call{Kind: api.DoCreate, H: root(), Name: "c"})))
	for _, d := range slices.Concat(asks(), writes(), makes(), removes(), renames()) {
		if y, out, kept := serve.Do(x, put(head(d.c))); !bytes.Equal(out, first) || kept || !tree.Same(x, y) {
			t.Errorf("Do(%+v) = %x, %t", d.c, out, kept)
		}
	}
	x.Sessions[1].Back = nil
	if y, out, kept := serve.Do(x, put(api.Call{Client: 1, Inc: 3, Seq: 4, Kind: api.DoCommit, H: root()})); len(out) > 0 || kept || !tree.Same(x, y) {
		t.Errorf("a reply of no bytes: %x, %t", out, kept)
	}
	x = full()
	for client := range uint8(4) {
		b := put(api.Call{Client: client, Inc: math.MaxUint32, Seq: math.MaxUint64, Kind: api.DoCommit, H: root()})
		if y, out, kept := serve.Do(x, b); !bytes.Equal(out, bytes.Repeat([]byte{client}, 4096)) || kept || !tree.Same(x, y) {
			t.Errorf("the longest reply: %x, %t", out, kept)
		}
	}
}

// TestOneHasNoSession holds that One does a call, whatever the session is, and that this stays.
func TestOneHasNoSession(t *testing.T) {
	for client := range uint8(4) {
		for inc := range uint32(9) {
			for seq := range uint64(9) {
				c := api.Call{Client: client, Inc: inc + 1, Seq: seq + 1, Kind: api.DoCreate, H: root(), Name: "c"}
				y, r := serve.One(some(), c)
				want, _, _ := tree.Make(some(), root(), "c", false)
				if r.Status != api.StOK || !tree.Same(y, want) {
					t.Errorf("One(%+v) = %+v, %+v", c, y, r)
				}
			}
		}
	}
}

// TestBrokenTrees holds that nothing is done to what is not whole, nor told of it.
func TestBrokenTrees(t *testing.T) {
	for i, x := range broken() {
		calls := []api.Call{
			{Client: 1, Inc: 3, Seq: 4, Kind: api.DoCommit, H: handle(2, 9)},
			{Client: 3, Inc: 7, Seq: 6, Kind: api.DoCreate, H: root(), Name: "c"},
			{Client: 2, Inc: 5, Seq: 1, Kind: api.DoLookup, H: root(), Name: "x"},
		}
		for _, d := range slices.Concat(asks(), writes(), makes(), removes(), renames()) {
			calls = append(calls, head(d.c))
		}
		for _, c := range calls {
			if y, out, kept := serve.Do(x, put(c)); len(out) > 0 || kept || !tree.Same(x, y) {
				t.Errorf("%d: Do(%+v) = %+v, %x, %t", i, c, y, out, kept)
			}
			if y, r := serve.One(x, c); !like(r, api.Back{}) || !tree.Same(x, y) {
				t.Errorf("%d: One(%+v) = %+v, %+v", i, c, y, r)
			}
		}
	}
}

// TestNoCalls hands over calls that may not be.
func TestNoCalls(t *testing.T) {
	var none []api.Call
	for _, d := range slices.Concat(asks(), writes(), makes(), removes(), renames()) {
		for _, do := range []func(c *api.Call){
			func(c *api.Call) { c.Client = 4 }, func(c *api.Call) { c.Client = 255 },
			func(c *api.Call) { c.Inc = 0 }, func(c *api.Call) { c.Seq = 0 },
			func(c *api.Call) { c.Kind = 0 }, func(c *api.Call) { c.Kind = 13 }, func(c *api.Call) { c.Kind = 255 },
			func(c *api.Call) { c.Name += "/" }, func(c *api.Call) { c.ToName += "\x00" },
			func(c *api.Call) { c.Off = 4097 }, func(c *api.Call) { c.Size = 4097 }, func(c *api.Call) { c.Off = math.MaxUint32 },
			func(c *api.Call) { c.Data = make([]byte, 65) },
		} {
			c := head(d.c)
			do(&c)
			none = append(none, c)
		}
	}
	none = append(none, api.Call{},
		head(api.Call{Kind: api.DoRead, H: handle(2, 9), Size: 65}), head(api.Call{Kind: api.DoWrite, H: handle(2, 9)}),
		head(api.Call{Kind: api.DoWrite, H: handle(2, 9), Off: 4033, Data: []byte{1}}), head(api.Call{Kind: api.DoLookup, H: root()}),
		head(api.Call{Kind: api.DoLookup, H: root(), Name: ".."}), head(api.Call{Kind: api.DoCommit, H: root(), Name: "a"}))
	for _, c := range none {
		if y, r := serve.One(some(), c); call.May(c) || !like(r, api.Back{}) || !tree.Same(y, some()) {
			t.Errorf("One(%+v) = %+v, %+v", c, y, r)
		}
	}
}

// TestNoBytes hands over bytes that are no call.
func TestNoBytes(t *testing.T) {
	nothing := func(b []byte) {
		t.Helper()
		if y, out, kept := serve.Do(some(), b); len(out) > 0 || kept || !tree.Same(y, some()) {
			t.Errorf("Do(%x) = %+v, %x, %t", b, y, out, kept)
		}
	}
	for _, d := range slices.Concat(writes(), makes(), removes(), renames()) {
		b := put(head(d.c))
		for many := range len(b) {
			nothing(b[:many])
			nothing(b[many+1:])
		}
		nothing(append(b, 0))
		nothing(append(b, b...))
		for _, at := range []int{0, 16} {
			wrong := bytes.Clone(b)
			wrong[at] = 1
			nothing(wrong)
		}
	}
	nothing(nil)
	nothing([]byte{})
	nothing(make([]byte, 4097))
	nothing(make([]byte, 70000))
}

// TestEachByte changes each byte of calls, and holds what comes of it against the plain model.
func TestEachByte(t *testing.T) {
	for _, c := range []api.Call{
		{Client: 1, Inc: 3, Seq: 5, Kind: api.DoRead, H: handle(2, 9), Off: 1, Size: 2},
		{Client: 3, Inc: 7, Seq: 6, Kind: api.DoRename, H: root(), Name: "a", To: handle(3, 3), ToName: "f"},
		{Client: 2, Inc: 5, Seq: 1, Kind: api.DoWrite, H: handle(9, 2), Off: 99, Data: []byte{1, 2, 3, 4, 5}},
	} {
		for at := range put(c) {
			for by := range 256 {
				b := put(c)
				b[at] = byte(by)
				want, wantOut, wantKept := plainDo(some(), b)
				if y, out, kept := serve.Do(some(), b); !tree.Same(y, want) || !bytes.Equal(out, wantOut) || kept != wantKept {
					t.Fatalf("Do(%x) = %+v, %x, %t", b, y, out, kept)
				}
			}
		}
	}
}

// TestReads goes through all places and sizes of a file.
func TestReads(t *testing.T) {
	x := some()
	for off := range uint32(130) {
		for size := range uint32(65) {
			does(t, x, head(api.Call{Kind: api.DoRead, H: handle(9, 2), Off: off, Size: size}))
		}
	}
}

// TestLongReplies holds that the longest replies are told, and kept.
func TestLongReplies(t *testing.T) {
	x := full()
	x.Sessions[2] = api.Session{}
	for _, c := range []api.Call{
		{Kind: api.DoReaddir, H: root()}, {Kind: api.DoReaddir, H: handle(2, 2)}, {Kind: api.DoRead, H: handle(64, 64), Off: 4032, Size: 64},
		{Kind: api.DoRead, H: handle(64, 64), Off: 4033, Size: 64}, {Kind: api.DoRead, H: handle(64, 64), Off: 4095, Size: 64},
		{Kind: api.DoGetattr, H: handle(64, 64)}, {Kind: api.DoRemove, H: root(), Name: strings.Repeat("n", 30) + "31"},
	} {
		c.Client, c.Inc, c.Seq = 2, math.MaxUint32, math.MaxUint64
		y, out, _ := does(t, x, c)
		r, e := back.Get(out)
		if e != api.OK || r.Status != api.StOK || r.Boot != 1<<31 || !bytes.Equal(y.Sessions[2].Back, out) {
			t.Errorf("Do(%+v) = %+v, %d", c, r, e)
		}
	}
}

// client is one of TestOnce: how often it was started, its last call, all that it sent, and the first reply to each.
type client struct {
	inc   uint32
	seq   uint64
	sent  [][]byte
	first map[string][]byte
}

// TestOnce lets calls be lost, doubled, late, and clients be started anew: each is done at most once, as it came first, and its reply stays the first one (P0.1, P15.2).
func TestOnce(t *testing.T) {
	r := rand.New(rand.NewSource(15))
	x, clients := tree.New(), make([]client, 4)
	for i := range clients {
		clients[i] = client{inc: 1, first: map[string][]byte{}}
	}
	for range 20000 {
		who := r.Intn(4)
		c := &clients[who]
		switch r.Intn(20) {
		case 0:
			c.inc, c.seq = c.inc+uint32(1+r.Intn(2)), 0
		case 1, 2, 3, 4, 5, 6, 7, 8:
			c.seq += uint64(1 + r.Intn(2))
			o := chance(r, x)
			o.Client, o.Inc, o.Seq = uint8(who), c.inc, c.seq
			c.sent = append(c.sent, put(o))
		}
		if len(c.sent) == 0 {
			continue
		}
		// The last ones come oftener.
		back := min(r.Intn(1+r.Intn(1+r.Intn(40))), len(c.sent)-1)
		x = comes(t, x, c, c.sent[len(c.sent)-1-back])
	}
}

// comes lets a call of a client come, and tells the tree behind it.
func comes(t *testing.T, x api.Tree, c *client, b []byte) api.Tree {
	t.Helper()
	o, _ := call.Get(b)
	y, out, kept := does(t, x, o)
	was, again := c.first[string(b)]
	switch {
	case again && (kept || !tree.Same(x, y) || len(out) > 0 && !bytes.Equal(out, was)):
		t.Fatalf("Do(%+v) again = %x, %t; %x at first", o, out, kept, was)
	case !again && len(out) > 0:
		c.first[string(b)] = out
	}
	if z, same, kept := serve.Do(y, b); kept || !tree.Same(y, z) || !bytes.Equal(out, same) {
		t.Fatalf("Do(%+v) twice = %x, %t", o, same, kept)
	}
	return y
}

// chance is some call on a tree, of no numbers yet.
func chance(r *rand.Rand, x api.Tree) api.Call {
	some := func() api.Handle {
		n := x.Nodes[r.Intn(len(x.Nodes))]
		if r.Intn(12) == 0 {
			n.Gen++
		}
		return handle(n.Ino, n.Gen)
	}
	name := func() string { return string(rune('a' + r.Intn(9))) }
	c := api.Call{Kind: uint8(1 + r.Intn(12)), H: some()}
	switch c.Kind {
	case api.DoSetSize:
		c.Size = uint32(r.Intn(100))
	case api.DoLookup, api.DoCreate, api.DoMkdir, api.DoRemove, api.DoRmdir:
		c.Name = name()
	case api.DoRead:
		c.Off, c.Size = uint32(r.Intn(100)), uint32(r.Intn(65))
	case api.DoWrite:
		c.Off, c.Data = uint32(r.Intn(100)), counted(1+r.Intn(64))
	case api.DoRename:
		c.Name, c.To, c.ToName = name(), some(), name()
	}
	return c
}

// TestMemory holds that no list of an answer lies where another one does, or one that was handed in.
func TestMemory(t *testing.T) {
	long := with(func(t *api.Tree) {
		t.Nodes[0].Names, t.Nodes[2].Names = names("first", 2, "fourth", 9, "second", 3, "third", 7), names("fifth", 5, "sixth", 4)
	})
	calls := []api.Call{
		head(api.Call{Kind: api.DoRemove, H: root(), Name: strings.Clone("first")}),
		head(api.Call{Kind: api.DoCreate, H: root(), Name: strings.Clone("zero")}),
		head(api.Call{Kind: api.DoRename, H: root(), Name: strings.Clone("first"), To: handle(7, 6), ToName: strings.Clone("third")}),
		{Client: 1, Inc: 3, Seq: 4, Kind: api.DoCommit, H: root()}, {Client: 1, Inc: 3, Seq: 3, Kind: api.DoCommit, H: root()}, {},
	}
	for _, d := range slices.Concat(asks(), writes(), makes(), removes(), renames()) {
		calls = append(calls, head(d.c))
	}
	for _, x := range append(broken(), some(), long) {
		for _, c := range calls {
			b, _ := call.Put(c)
			y, out, _ := serve.Do(x, b)
			z, r := serve.One(x, c)
			v, again, _ := serve.Do(x, b)
			all := slices.Concat(areasOfTree(x), areasOfCall(c), []area{areaOf(b)},
				areasOfTree(y), []area{areaOf(out)}, areasOfTree(z), areasOfBack(r), areasOfTree(v), []area{areaOf(again)})
			if meet(all) {
				t.Fatalf("%+v: two lists share memory", c)
			}
		}
	}
}

// TestRoom holds that what is handed in stays as it is, the room behind its end too, and that the room counts for nothing.
func TestRoom(t *testing.T) {
	for _, d := range slices.Concat(asks(), writes(), makes(), removes(), renames()) {
		c := head(d.c)
		x, b, data := roomy(some()), append(put(c), 99), append(bytes.Clone(c.Data), 99)
		if c.Data != nil {
			c.Data = data[:len(c.Data)]
		}
		y, out, _ := serve.Do(x, b[:len(b)-1])
		z, r := serve.One(x, c)
		want, wantOut, _ := plainDo(some(), put(c))
		wantOne, wantBack := plainOne(some(), c)
		if !tree.Same(y, want) || !bytes.Equal(out, wantOut) || !tree.Same(z, wantOne) || !like(r, wantBack) {
			t.Errorf("%+v: the room counted", c)
		}
		if !tree.Same(x, some()) || !isRoomy(x) || b[len(b)-1] != 99 || data[len(data)-1] != 99 {
			t.Errorf("%+v: what was handed in changed", c)
		}
	}
}

// roomy is a tree with room behind the ends of its lists, in which something stands.
func roomy(t api.Tree) api.Tree {
	for i, n := range t.Nodes {
		t.Nodes[i].Data = append(slices.Clip(n.Data), 99)[:len(n.Data)]
		t.Nodes[i].Names = append(slices.Clip(n.Names), names("z", 99)...)[:len(n.Names)]
	}
	for i, s := range t.Sessions {
		t.Sessions[i].Back = append(slices.Clip(s.Back), 99)[:len(s.Back)]
	}
	t.Nodes = append(t.Nodes, api.Node{Ino: 99})[:len(t.Nodes)]
	return t
}

func isRoomy(t api.Tree) bool {
	is := t.Nodes[:len(t.Nodes)+1][len(t.Nodes)].Ino == 99
	for _, n := range t.Nodes {
		is = is && n.Data[:len(n.Data)+1][len(n.Data)] == 99 && n.Names[:len(n.Names)+1][len(n.Names)].Ino == 99
	}
	for _, s := range t.Sessions {
		is = is && s.Back[:len(s.Back)+1][len(s.Back)] == 99
	}
	return is
}

// TestLongWay does calls of all kinds, one behind the other, by One: the tree behind each is whole.
func TestLongWay(t *testing.T) {
	r := rand.New(rand.NewSource(51))
	x := tree.New()
	seen := map[string]int{}
	for seq := range uint64(20000) {
		if seq%1000 == 0 {
			x = tree.New()
		}
		c := chance(r, x)
		c.Inc, c.Seq = 1, seq+1
		want, wantBack := plainOne(x, c)
		y, b := serve.One(x, c)
		if !tree.Same(y, want) || !like(b, wantBack) || !box.Whole(y) || b.Status != api.StOK && !tree.Same(x, y) {
			t.Fatalf("One(%+v) = %+v, %+v", c, y, b)
		}
		seen[fmt.Sprint(c.Kind, b.Status)]++
		x = y
	}
	// Each kind came to be done, and came to fail.
	for kind := 1; kind <= 12; kind++ {
		if seen[fmt.Sprint(kind, api.StOK)] == 0 || seen[fmt.Sprint(kind, api.StStale)] == 0 {
			t.Errorf("the kind %d: %v", kind, seen)
		}
	}
}
