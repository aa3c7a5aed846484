package tree_test

import (
	"bytes"
	"cmp"
	"maps"
	"reflect"
	"slices"
	"strings"
	"unicode/utf8"

	"wharfage/api"
)

// item is a file or a directory of the model: its names lead to items.
type item struct {
	ino, gen uint32
	dir      bool
	change   uint64
	data     []byte
	names    map[string]*item
}

// model does what the chapter says, in its order, on items.
type model struct {
	items                map[uint32]*item
	lastGen, boot, count uint32
	sessions             [api.MaxClients]api.Session
}

// modelOf is the model of a tree that may be.
func modelOf(t api.Tree) *model {
	m := &model{items: map[uint32]*item{}, lastGen: t.LastGen, boot: t.Boot, count: t.Count, sessions: clone(t).Sessions}
	for _, n := range t.Nodes {
		m.items[n.Ino] = &item{ino: n.Ino, gen: n.Gen, dir: n.Dir, change: n.Change, data: bytes.Clone(n.Data), names: map[string]*item{}}
	}
	for _, n := range t.Nodes {
		for _, e := range n.Names {
			m.items[n.Ino].names[e.Name] = m.items[e.Ino]
		}
	}
	return m
}

func (m *model) tree() api.Tree {
	t := api.Tree{LastGen: m.lastGen, Boot: m.boot, Count: m.count, Sessions: m.sessions}
	for _, ino := range slices.Sorted(maps.Keys(m.items)) {
		t.Nodes = append(t.Nodes, m.items[ino].node())
	}
	return t
}

func (x *item) node() api.Node {
	n := api.Node{Ino: x.ino, Gen: x.gen, Dir: x.dir, Change: x.change, Data: bytes.Clone(x.data)}
	for s, y := range x.names {
		n.Names = append(n.Names, api.Entry{Name: s, Ino: y.ino})
	}
	slices.SortFunc(n.Names, func(a, b api.Entry) int { return bytes.Compare([]byte(a.Name), []byte(b.Name)) })
	return n
}

func (m *model) of(h api.Handle) *item {
	if x := m.items[h.Ino]; x != nil && x.gen == h.Gen {
		return x
	}
	return nil
}

func (m *model) changed(l ...*item) {
	m.count++
	for _, x := range l {
		x.change = uint64(m.boot)*4294967296 + uint64(m.count)
	}
}

func (m *model) lookup(h api.Handle, name string) (*item, uint8) {
	x := m.of(h)
	if x == nil {
		return nil, api.StStale
	}
	if !x.dir {
		return nil, api.StNotDir
	}
	if !isName(name) {
		return nil, api.StArg
	}
	if x.names[name] == nil {
		return nil, api.StNone
	}
	return x.names[name], api.StOK
}

func (m *model) make(h api.Handle, name string, dir bool) (*item, uint8) {
	_, status := m.lookup(h, name)
	x := m.of(h)
	switch {
	case status == api.StOK:
		return nil, api.StExist
	case status != api.StNone:
		return nil, status
	case len(m.items) >= 64 || len(x.names) >= 32 || m.lastGen >= 2147483648 || m.count >= 2147483648:
		return nil, api.StSpace
	}
	ino := uint32(1)
	for m.items[ino] != nil {
		ino++
	}
	m.lastGen++
	y := &item{ino: ino, gen: m.lastGen, dir: dir, names: map[string]*item{}}
	m.items[ino], x.names[name] = y, y
	m.changed(x, y)
	return y, api.StOK
}

func (m *model) remove(h api.Handle, name string, dir bool) uint8 {
	y, status := m.lookup(h, name)
	switch {
	case status != api.StOK:
		return status
	case y.dir && !dir:
		return api.StIsDir
	case !y.dir && dir:
		return api.StNotDir
	case len(y.names) > 0:
		return api.StNotEmpty
	case m.count >= 2147483648:
		return api.StSpace
	}
	delete(m.of(h).names, name)
	delete(m.items, y.ino)
	m.changed(m.of(h))
	return api.StOK
}

func (m *model) rename(h api.Handle, name string, to api.Handle, toName string) uint8 {
	from, into := m.of(h), m.of(to)
	switch {
	case from == nil || into == nil:
		return api.StStale
	case !from.dir || !into.dir:
		return api.StNotDir
	case !isName(name) || !isName(toName):
		return api.StArg
	case from.names[name] == nil:
		return api.StNone
	}
	x, y := from.names[name], into.names[toName]
	switch {
	case x == y:
		return api.StOK
	case y != nil && x.dir && !y.dir:
		return api.StNotDir
	case y != nil && !x.dir && y.dir:
		return api.StIsDir
	case y != nil && len(y.names) > 0:
		return api.StNotEmpty
	case x.has(into):
		return api.StLoop
	case from != into && y == nil && len(into.names) >= 32, m.count >= 2147483648:
		return api.StSpace
	}
	if y != nil {
		delete(m.items, y.ino)
	}
	delete(from.names, name)
	into.names[toName] = x
	m.changed(from, into)
	return api.StOK
}

// has tells whether y is x, or somewhere beneath it.
func (x *item) has(y *item) bool {
	for _, z := range x.names {
		if z.has(y) {
			return true
		}
	}
	return x == y
}

func (m *model) write(h api.Handle, off uint32, data []byte) uint8 {
	end := uint64(off) + uint64(len(data))
	if len(data) == 0 || len(data) > 64 {
		end = 1 << 60
	}
	x, status := m.file(h, end)
	if status != api.StOK {
		return status
	}
	for uint64(len(x.data)) < end {
		x.data = append(x.data, 0)
	}
	for i, b := range data {
		x.data[int(off)+i] = b
	}
	m.changed(x)
	return api.StOK
}

func (m *model) resize(h api.Handle, size uint32) uint8 {
	x, status := m.file(h, uint64(size))
	if status != api.StOK {
		return status
	}
	was := x.data
	x.data = nil
	for i := range int(size) {
		if i < len(was) {
			x.data = append(x.data, was[i])
		} else {
			x.data = append(x.data, 0)
		}
	}
	m.changed(x)
	return api.StOK
}

// file tells the file of a handle, if it may be changed so that it ends there.
func (m *model) file(h api.Handle, end uint64) (*item, uint8) {
	x := m.of(h)
	switch {
	case x == nil:
		return nil, api.StStale
	case x.dir:
		return nil, api.StIsDir
	case end > 4096:
		return nil, api.StArg
	case m.count >= 2147483648:
		return nil, api.StSpace
	}
	return x, api.StOK
}

func isName(s string) bool {
	return len(s) >= 1 && len(s) <= 32 && s != "." && s != ".." && utf8.ValidString(s) &&
		!strings.ContainsFunc(s, func(r rune) bool { return r < 32 || r == 127 || r == '/' })
}

// plainMay tells whether a tree may be, climbing from each node to the root.
func plainMay(t api.Tree) bool {
	if len(t.Nodes) < 1 || len(t.Nodes) > 64 || t.Boot < 1 || t.Boot > 2147483648 || t.LastGen < 1 {
		return false
	}
	if r := t.Nodes[0]; r.Ino != 1 || r.Gen != 1 || !r.Dir {
		return false
	}
	above, gens := map[uint32][]uint32{}, map[uint32]int{}
	for i, n := range t.Nodes {
		gens[n.Gen]++
		switch {
		case i > 0 && cmp.Compare(t.Nodes[i-1].Ino, n.Ino) != -1, n.Gen < 1, n.Gen > t.LastGen, gens[n.Gen] > 1,
			n.Change > uint64(t.Boot)*4294967296+uint64(t.Count), n.Dir && len(n.Data) > 0, !n.Dir && len(n.Names) > 0,
			len(n.Data) > 4096, len(n.Names) > 32:
			return false
		}
		for k, e := range n.Names {
			if !isName(e.Name) || k > 0 && bytes.Compare([]byte(n.Names[k-1].Name), []byte(e.Name)) >= 0 {
				return false
			}
			above[e.Ino] = append(above[e.Ino], n.Ino)
		}
	}
	return plainClimb(t, above)
}

func plainClimb(t api.Tree, above map[uint32][]uint32) bool {
	names := 0
	for _, n := range t.Nodes {
		names += len(n.Names)
		at := n.Ino
		for step := 0; at != 1; step++ {
			if len(above[at]) != 1 || step > 64 {
				return false
			}
			at = above[at][0]
		}
	}
	// Each but the root has one name: no name is left for the root, nor for what is not there.
	return names == len(t.Nodes)-1
}

// clone is a tree in new memory.
func clone(t api.Tree) api.Tree {
	var nodes []api.Node
	for _, n := range t.Nodes {
		n.Data, n.Names = bytes.Clone(n.Data), slices.Clone(n.Names)
		nodes = append(nodes, n)
	}
	t.Nodes = nodes
	for i := range t.Sessions {
		t.Sessions[i].Back = bytes.Clone(t.Sessions[i].Back)
	}
	return t
}

// even is a tree whose lists without elements are nil.
func even(t api.Tree) api.Tree {
	t.Nodes = append([]api.Node(nil), t.Nodes...)
	for i := range t.Nodes {
		t.Nodes[i] = evenNode(t.Nodes[i])
	}
	for i := range t.Sessions {
		if len(t.Sessions[i].Back) == 0 {
			t.Sessions[i].Back = nil
		}
	}
	return t
}

func evenNode(n api.Node) api.Node {
	if len(n.Data) == 0 {
		n.Data = nil
	}
	if len(n.Names) == 0 {
		n.Names = nil
	}
	return n
}

// like tells whether two trees are the same, by the library's own comparing.
func like(a, b api.Tree) bool { return reflect.DeepEqual(even(a), even(b)) }

func likeNode(a, b api.Node) bool { return reflect.DeepEqual(evenNode(a), evenNode(b)) }
