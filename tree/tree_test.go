package tree_test

import (
	"bytes"
	"fmt"
	"math"
	"math/rand"
	"reflect"
	"slices"
	"strings"
	"testing"

	"wharfage/api"
	"wharfage/tree"
)

func root() api.Handle { return api.Handle{Ino: 1, Gen: 1} }

func handle(ino, gen uint32) api.Handle { return api.Handle{Ino: ino, Gen: gen} }

// names are entries, of names by their numbers.
func names(l ...any) []api.Entry {
	var out []api.Entry
	for two := range slices.Chunk(l, 2) {
		out = append(out, api.Entry{Name: two[0].(string), Ino: uint32(two[1].(int))})
	}
	return out
}

// some is a tree that may be, of numbers all unlike: files a, b, d/f; directories d, d/e, d/e/i, g. No node has the Ino 8.
func some() api.Tree {
	return api.Tree{
		Nodes: []api.Node{
			{Ino: 1, Gen: 1, Dir: true, Change: 1<<32 + 10, Names: names("a", 2, "b", 9, "d", 3, "g", 7)},
			{Ino: 2, Gen: 9, Change: 2<<32 + 77, Data: []byte{7, 8, 9}},
			{Ino: 3, Gen: 3, Dir: true, Change: 2<<32 + 12, Names: names("e", 5, "f", 4)},
			{Ino: 4, Gen: 12, Change: 0},
			{Ino: 5, Gen: 4, Dir: true, Change: 1<<32 + 14, Names: names("i", 6)},
			{Ino: 6, Gen: 5, Dir: true, Change: 15},
			{Ino: 7, Gen: 6, Dir: true, Change: 2<<32 + 16},
			{Ino: 9, Gen: 2, Change: 2<<32 + 17, Data: bytes.Repeat([]byte{5}, 4096)},
		},
		LastGen: 12, Boot: 2, Count: 77,
		Sessions: [4]api.Session{{}, {Inc: 3, Seq: 4, Back: []byte{1, 2, 3}}, {Inc: 5}, {Seq: 6, Back: []byte{4}}},
	}
}

// with is some, changed.
func with(do func(t *api.Tree)) api.Tree {
	t := some()
	do(&t)
	return t
}

// row is a directory's names: so many, from a number on.
func row(many int, ino uint32) []api.Entry {
	var l []api.Entry
	for n := range many {
		l = append(l, api.Entry{Name: fmt.Sprintf("n%02d", n), Ino: ino + uint32(n)})
	}
	return l
}

// wide is a tree whose root has so many names, from 2 on, the first one a directory, the second one too, of so many names, the others are files.
func wide(rootNames, dirNames int) api.Tree {
	t := api.Tree{LastGen: 100, Boot: 1, Count: 5}
	t.Nodes = append(t.Nodes, api.Node{Ino: 1, Gen: 1, Dir: true, Names: row(rootNames, 2)})
	for n := range rootNames + dirNames {
		ino := uint32(n + 2)
		t.Nodes = append(t.Nodes, api.Node{Ino: ino, Gen: ino, Dir: n < 2})
	}
	t.Nodes[2].Names = row(dirNames, uint32(rootNames+2))
	return t
}

// deep is a tree of so many directories, each in the one ahead.
func deep(many int) api.Tree {
	t := api.Tree{LastGen: 64, Boot: 1}
	for n := range many {
		ino := uint32(n + 1)
		t.Nodes = append(t.Nodes, api.Node{Ino: ino, Gen: ino, Dir: true, Names: names("n", n+2)})
	}
	t.Nodes[many-1].Names = nil
	return t
}

// bases are trees that may be, some of them at their limits.
func bases() map[string]api.Tree {
	return map[string]api.Tree{
		"new":            {Nodes: []api.Node{{Ino: 1, Gen: 1, Dir: true}}, LastGen: 1, Boot: 1},
		"some":           some(),
		"last count":     with(func(t *api.Tree) { t.Count = 1<<31 - 1 }),
		"no count":       with(func(t *api.Tree) { t.Count = 1 << 31 }),
		"greatest count": with(func(t *api.Tree) { t.Count, t.Boot = math.MaxUint32, 1<<31 }),
		"no count yet":   with(func(t *api.Tree) { t.Count, t.Boot = 0, 1<<31 }),
		"last gen":       with(func(t *api.Tree) { t.LastGen = 1<<31 - 1 }),
		"no gen":         with(func(t *api.Tree) { t.LastGen = 1 << 31 }),
		"greatest gen":   with(func(t *api.Tree) { t.LastGen, t.Nodes[3].Gen = math.MaxUint32, math.MaxUint32 }),
		"greatest ino":   with(func(t *api.Tree) { t.Nodes[7].Ino, t.Nodes[0].Names[1].Ino = math.MaxUint32, math.MaxUint32 }),
		"no ino left":    wide(32, 31),
		"one ino left":   wide(31, 31),
		"full root":      wide(32, 5),
		"almost full":    wide(31, 5),
		"full dir":       wide(5, 32),
		"almost full in": wide(5, 31),
		"deep":           deep(64),
		"less deep":      deep(9),
		"full of all": func() api.Tree {
			t := wide(32, 31)
			t.Count, t.LastGen = 1<<31, 1<<31
			return t
		}(),
	}
}

// stale are handles that no base has.
func stale() []api.Handle {
	return []api.Handle{{}, {Ino: 1}, handle(1, 2), handle(0, 1), handle(8, 80), handle(math.MaxUint32, 7), handle(2, 3)}
}

// handles are handles of a tree's nodes, of a great one of the first ones and the last one.
func handles(t api.Tree) []api.Handle {
	var l []api.Handle
	for i, n := range t.Nodes {
		if i < 7 || i == len(t.Nodes)-1 {
			l = append(l, handle(n.Ino, n.Gen))
		}
	}
	return l
}

// texts are names that a tree has, of a great one a few, and one that it has not.
func texts(t api.Tree) []string {
	l := textsOf(t)
	slices.Sort(l)
	l = slices.Compact(l)
	if many := len(l); many > 7 {
		l = append(l[:4:4], l[many-2:]...)
	}
	return append(l, "bb")
}

// wrong are such as are no names.
func wrong() []string {
	return []string{"", ".", "..", "\xff", "x/y", "\x7f", strings.Repeat("n", 33)}
}

// bad is a tree that may not be, by each thing that may not.
func bad() map[string]api.Tree {
	return map[string]api.Tree{
		"zero":             {},
		"no nodes":         with(func(t *api.Tree) { t.Nodes = []api.Node{} }),
		"no root":          with(func(t *api.Tree) { t.Nodes = t.Nodes[1:] }),
		"root's ino 0":     with(func(t *api.Tree) { t.Nodes[0].Ino = 0 }),
		"root's ino 2":     {Nodes: []api.Node{{Ino: 2, Gen: 1, Dir: true}}, LastGen: 1, Boot: 1},
		"one of ino 0":     {Nodes: []api.Node{{Ino: 0, Gen: 2, Dir: true, Names: names("a", 1)}, {Ino: 1, Gen: 1, Dir: true}}, LastGen: 2, Boot: 1},
		"root's gen 2":     {Nodes: []api.Node{{Ino: 1, Gen: 2, Dir: true}}, LastGen: 2, Boot: 1},
		"root's gen 0":     {Nodes: []api.Node{{Ino: 1, Dir: true}}, LastGen: 1, Boot: 1},
		"root a file":      {Nodes: []api.Node{{Ino: 1, Gen: 1}}, LastGen: 1, Boot: 1},
		"root behind":      with(func(t *api.Tree) { t.Nodes[0], t.Nodes[1] = t.Nodes[1], t.Nodes[0] }),
		"inos fall":        with(func(t *api.Tree) { t.Nodes[6], t.Nodes[7] = t.Nodes[7], t.Nodes[6] }),
		"inos alike":       with(func(t *api.Tree) { t.Nodes[2].Ino = 2 }),
		"65 nodes":         wide(32, 32),
		"gen 0":            with(func(t *api.Tree) { t.Nodes[3].Gen = 0 }),
		"gens alike":       with(func(t *api.Tree) { t.Nodes[3].Gen = 2 }),
		"root's gen twice": with(func(t *api.Tree) { t.Nodes[7].Gen = 1 }),
		"gen above last":   with(func(t *api.Tree) { t.Nodes[3].Gen = 13 }),
		"last gen below":   with(func(t *api.Tree) { t.LastGen = 11 }),
		"last gen 0":       with(func(t *api.Tree) { t.LastGen = 0 }),
		"last gen 0 alone": {Nodes: []api.Node{{Ino: 1, Gen: 1, Dir: true}}, Boot: 1},
		"boot 0":           with(func(t *api.Tree) { t.Boot = 0 }),
		"boot 0 unused":    {Nodes: []api.Node{{Ino: 1, Gen: 1, Dir: true}}, LastGen: 1, Count: 1},
		"boot too great":   with(func(t *api.Tree) { t.Boot = 1<<31 + 1 }),
		"greatest boot":    with(func(t *api.Tree) { t.Boot = math.MaxUint32 }),
		"change of later":  with(func(t *api.Tree) { t.Nodes[1].Change = 2<<32 + 78 }),
		"root's of later":  with(func(t *api.Tree) { t.Nodes[0].Change = 3 << 32 }),
		"greatest change":  with(func(t *api.Tree) { t.Nodes[7].Change = math.MaxUint64 }),
		"count below":      with(func(t *api.Tree) { t.Count = 76 }),
		"boot below":       with(func(t *api.Tree) { t.Boot = 1 }),
		"file of names":    with(func(t *api.Tree) { t.Nodes[3].Names, t.Nodes[2].Names = names("e", 5), names("f", 4) }),
		"file of a name":   with(func(t *api.Tree) { t.Nodes[1].Names = names("x", 8) }),
		"long file":        with(func(t *api.Tree) { t.Nodes[3].Data = make([]byte, 4097) }),
		"root of bytes":    with(func(t *api.Tree) { t.Nodes[0].Data = []byte{0} }),
		"dir of bytes":     with(func(t *api.Tree) { t.Nodes[6].Data = []byte{1} }),
		"33 in root":       wide(33, 4),
		"33 in a dir":      wide(4, 33),
		"names fall":       with(func(t *api.Tree) { t.Nodes[0].Names = names("b", 9, "a", 2, "d", 3, "g", 7) }),
		"last names fall":  with(func(t *api.Tree) { t.Nodes[2].Names = names("f", 4, "e", 5) }),
		"names alike":      with(func(t *api.Tree) { t.Nodes[2].Names = names("e", 4, "e", 5) }),
		"capital behind":   with(func(t *api.Tree) { t.Nodes[2].Names = names("e", 4, "F", 5) }),
		"longer ahead":     with(func(t *api.Tree) { t.Nodes[2].Names = names("ee", 4, "e", 5) }),
		"no name":          with(func(t *api.Tree) { t.Nodes[2].Names = names("", 4, "e", 5) }),
		"dot":              with(func(t *api.Tree) { t.Nodes[2].Names = names(".", 4, "e", 5) }),
		"dots":             with(func(t *api.Tree) { t.Nodes[2].Names = names("..", 4, "e", 5) }),
		"slash":            with(func(t *api.Tree) { t.Nodes[2].Names = names("e", 4, "x/y", 5) }),
		"a byte of none":   with(func(t *api.Tree) { t.Nodes[2].Names = names("e", 4, "\xff", 5) }),
		"long name":        with(func(t *api.Tree) { t.Nodes[0].Names[3].Name = strings.Repeat("g", 33) }),
		"name of none":     with(func(t *api.Tree) { t.Nodes[5].Names = names("x", 8) }),
		"name of ino 0":    with(func(t *api.Tree) { t.Nodes[5].Names = names("x", 0) }),
		"name beyond":      with(func(t *api.Tree) { t.Nodes[5].Names = names("x", 10) }),
		"in no dir":        with(func(t *api.Tree) { t.Nodes[0].Names = names("a", 2, "d", 3, "g", 7) }),
		"dir in no dir":    with(func(t *api.Tree) { t.Nodes[4].Names = nil }),
		"in two dirs":      with(func(t *api.Tree) { t.Nodes[6].Names = names("a", 2) }),
		"dir in two dirs":  with(func(t *api.Tree) { t.Nodes[6].Names = names("a", 6) }),
		"in a dir twice":   with(func(t *api.Tree) { t.Nodes[2].Names = names("e", 5, "f", 4, "h", 4) }),
		"dir twice":        with(func(t *api.Tree) { t.Nodes[2].Names = names("e", 5, "f", 4, "h", 5) }),
		"root in a dir":    with(func(t *api.Tree) { t.Nodes[6].Names = names("x", 1) }),
		"root in root":     {Nodes: []api.Node{{Ino: 1, Gen: 1, Dir: true, Names: names("x", 1)}}, LastGen: 1, Boot: 1},
		"dir in itself":    with(func(t *api.Tree) { t.Nodes[0].Names, t.Nodes[6].Names = names("a", 2, "b", 9, "d", 3), names("x", 7) }),
		"dirs in a ring":   with(func(t *api.Tree) { t.Nodes[0].Names, t.Nodes[5].Names = names("a", 2, "b", 9, "g", 7), names("x", 3) }),
		"dir above itself": with(func(t *api.Tree) { t.Nodes[5].Names = names("x", 3) }),
	}
}

// TestExamples holds the chapter's table of examples, in its order.
func TestExamples(t *testing.T) {
	x, n, s := tree.Make(tree.New(), root(), "a", false)
	if n.Ino != 2 || n.Gen != 2 || s != api.StOK {
		t.Errorf("Make(New, root, a) = %+v, %d", n, s)
	}
	if n, s := tree.Lookup(x, root(), "a"); n.Ino != 2 || s != api.StOK {
		t.Errorf("Lookup(a) = %+v, %d", n, s)
	}
	if _, _, s := tree.Make(x, root(), "a", false); s != api.StExist {
		t.Errorf("Make(a again): %d", s)
	}
	y, s := tree.Write(x, handle(2, 2), 3, []byte{7, 8})
	if s != api.StOK || !bytes.Equal(y.Nodes[1].Data, []byte{0, 0, 0, 7, 8}) {
		t.Errorf("Write: %d, %v", s, y.Nodes)
	}
	if y, s := tree.Remove(x, root(), "a", false); s != api.StOK || len(y.Nodes) != 1 || len(y.Nodes[0].Names) != 0 {
		t.Errorf("Remove(a): %d, %v", s, y.Nodes)
	}
	if _, s := tree.Remove(tree.New(), root(), "a", false); s != api.StNone {
		t.Errorf("Remove(New, a): %d", s)
	}
	if y, s := tree.Rename(x, root(), "a", root(), "b"); s != api.StOK || !slices.Equal(y.Nodes[0].Names, names("b", 2)) {
		t.Errorf("Rename(a, b): %d, %v", s, y.Nodes)
	}
}

func TestNew(t *testing.T) {
	want := api.Tree{Nodes: []api.Node{{Ino: 1, Gen: 1, Dir: true, Change: 1<<32 + 1}}, LastGen: 1, Boot: 1, Count: 1}
	x := tree.New()
	if !like(x, want) || !tree.May(x) {
		t.Errorf("New = %+v", x)
	}
	x.Nodes[0].Gen = 7
	if !like(tree.New(), want) {
		t.Errorf("New follows another one")
	}
}

func TestMay(t *testing.T) {
	good := bases()
	good["sizes"] = with(func(t *api.Tree) { t.Nodes[3].Data = make([]byte, 4096) })
	good["equal change"] = with(func(t *api.Tree) { t.Nodes[0].Change = 2<<32 + 77 })
	good["all equal change"] = with(func(t *api.Tree) {
		for i := range t.Nodes {
			t.Nodes[i].Change = 2<<32 + 77
		}
	})
	good["greatest of all"] = with(func(t *api.Tree) {
		t.Boot, t.Count, t.LastGen, t.Nodes[7].Change = 1<<31, math.MaxUint32, math.MaxUint32, 1<<63+math.MaxUint32
	})
	good["by bytes"] = with(func(t *api.Tree) { t.Nodes[2].Names = names("Z", 4, "a", 5) })
	good["by length"] = with(func(t *api.Tree) { t.Nodes[2].Names = names("a", 4, "aa", 5) })
	good["beyond ascii"] = with(func(t *api.Tree) { t.Nodes[2].Names = names("z", 4, "\xc3\xa9", 5) })
	good["longest name"] = with(func(t *api.Tree) { t.Nodes[0].Names[3].Name = strings.Repeat("g", 32) })
	good["lists of none"] = with(func(t *api.Tree) {
		for i := range t.Nodes {
			if t.Nodes[i].Dir {
				t.Nodes[i].Data = []byte{}
			} else {
				t.Nodes[i].Names = []api.Entry{}
			}
		}
	})
	good["sessions of all kinds"] = with(func(t *api.Tree) { t.Sessions[2] = api.Session{Seq: math.MaxUint64, Back: make([]byte, 5000)} })
	for what, x := range good {
		if !plainMay(x) || !tree.May(x) {
			t.Errorf("%s: may not be", what)
		}
	}
	for what, x := range bad() {
		if plainMay(x) || tree.May(x) {
			t.Errorf("%s: may be", what)
		}
	}
}

// TestTreesThatMayNotBe holds that StArg comes ahead of all else, and that the tree stays.
func TestTreesThatMayNotBe(t *testing.T) {
	for what, x := range bad() {
		for _, h := range slices.Concat(handles(x), stale(), []api.Handle{handle(9, 2), handle(3, 3)}) {
			if n, is := tree.Find(x, h); is || !likeNode(n, api.Node{}) {
				t.Errorf("%s: Find(%v) = %+v, %t", what, h, n, is)
			}
			for _, s := range slices.Concat(texts(x), wrong()) {
				if n, status := tree.Lookup(x, h, s); status != api.StArg || !likeNode(n, api.Node{}) {
					t.Errorf("%s: Lookup(%v, %q) = %+v, %d", what, h, s, n, status)
				}
				for _, dir := range []bool{false, true} {
					y, n, status := tree.Make(x, h, s, dir)
					if status != api.StArg || !like(x, y) || !likeNode(n, api.Node{}) {
						t.Errorf("%s: Make(%v, %q): %d", what, h, s, status)
					}
					if y, status := tree.Remove(x, h, s, dir); status != api.StArg || !like(x, y) {
						t.Errorf("%s: Remove(%v, %q): %d", what, h, s, status)
					}
				}
				if y, status := tree.Rename(x, h, s, root(), "a"); status != api.StArg || !like(x, y) {
					t.Errorf("%s: Rename(%v, %q): %d", what, h, s, status)
				}
				if y, status := tree.Rename(x, root(), "a", h, s); status != api.StArg || !like(x, y) {
					t.Errorf("%s: Rename(a, %v, %q): %d", what, h, s, status)
				}
			}
			if y, status := tree.Write(x, h, 1, []byte{1}); status != api.StArg || !like(x, y) {
				t.Errorf("%s: Write(%v): %d", what, h, status)
			}
			if y, status := tree.Resize(x, h, 1); status != api.StArg || !like(x, y) {
				t.Errorf("%s: Resize(%v): %d", what, h, status)
			}
		}
	}
}

// breaks are small changes of a tree, most of which it may not have.
func breaks() []func(t *api.Tree, a, b int) {
	return []func(t *api.Tree, a, b int){
		func(t *api.Tree, a, b int) { t.Nodes[a].Ino = uint32(b) },
		func(t *api.Tree, a, b int) { t.Nodes[a].Gen = uint32(b) },
		func(t *api.Tree, a, b int) { t.Nodes[a].Dir = !t.Nodes[a].Dir },
		func(t *api.Tree, a, b int) { t.Nodes[a], t.Nodes[b] = t.Nodes[b], t.Nodes[a] },
		func(t *api.Tree, a, b int) { t.Nodes[a].Names, t.Nodes[b].Names = t.Nodes[b].Names, t.Nodes[a].Names },
		func(t *api.Tree, a, b int) { t.Nodes[a].Names = append(t.Nodes[a].Names, names("z", b)...) },
		func(t *api.Tree, a, b int) { t.Nodes = slices.Delete(t.Nodes, a, a+1) },
		func(t *api.Tree, a, b int) { t.LastGen = uint32(a + b) },
		func(t *api.Tree, a, b int) { t.Nodes[a].Change = uint64(b) << 31 },
		func(t *api.Tree, a, b int) {
			if l := t.Nodes[a].Names; len(l) > 0 {
				l[b%len(l)].Ino = uint32(a + b)
			}
		},
		func(t *api.Tree, a, b int) {
			if l := t.Nodes[a].Names; len(l) > 0 {
				t.Nodes[a].Names = slices.Delete(l, b%len(l), b%len(l)+1)
			}
		},
	}
}

// TestAnyTree holds May against the plain one, and that all calls end, on trees most of which may not be.
func TestAnyTree(t *testing.T) {
	r := rand.New(rand.NewSource(13))
	all, may := breaks(), 0
	for range 30000 {
		x := some()
		for range 1 + r.Intn(4) {
			if n := len(x.Nodes); n > 0 {
				all[r.Intn(len(all))](&x, r.Intn(n), r.Intn(n))
			}
		}
		is := tree.May(x)
		if is != plainMay(x) {
			t.Fatalf("May(%+v) = %t", x, is)
		}
		if is {
			may++
		}
		h, to := handle(uint32(r.Intn(10)), uint32(r.Intn(13))), handle(uint32(r.Intn(10)), uint32(r.Intn(13)))
		single(t, x, pick(r, h, root()), pick(r, "a", "d", "e"), pick(r, to, root()), pick(r, "g", "i", "z"))
	}
	if may < 300 {
		t.Errorf("%d trees may be", may)
	}
}

func pick[T any](r *rand.Rand, l ...T) T { return l[r.Intn(len(l))] }

// single asks all that changes names once, of a tree that may be or not, and holds what comes of it against the model.
func single(t *testing.T, x api.Tree, h api.Handle, s string, to api.Handle, toName string) {
	t.Helper()
	makes(t, x, h, s)
	removes(t, x, h, s)
	renames(t, x, h, s, to, toName)
}

// holds that a tree and a status are what the model has; of a tree that may not be, that it stays.
func holds(t *testing.T, what string, x, y api.Tree, status uint8, do func(m *model) uint8) {
	t.Helper()
	if !plainMay(x) {
		if status != api.StArg || !like(x, y) {
			t.Errorf("%s: %d of what may not be", what, status)
		}
		return
	}
	m := modelOf(x)
	want := do(m)
	if status != want || !like(y, m.tree()) {
		t.Errorf("%s: %d, %+v; want %d, %+v", what, status, y, want, m.tree())
	}
	if status != api.StOK && !like(x, y) || !tree.May(y) {
		t.Errorf("%s: %d: the tree behind it", what, status)
	}
}

func makes(t *testing.T, x api.Tree, h api.Handle, s string) {
	t.Helper()
	for _, dir := range []bool{false, true} {
		y, n, status := tree.Make(x, h, s, dir)
		var want api.Node
		holds(t, fmt.Sprintf("Make(%v, %q, %t)", h, s, dir), x, y, status, func(m *model) uint8 {
			made, status := m.make(h, s, dir)
			if made != nil {
				want = made.node()
			}
			return status
		})
		if !likeNode(n, want) {
			t.Errorf("Make(%v, %q, %t) = %+v, not %+v", h, s, dir, n, want)
		}
	}
}

func removes(t *testing.T, x api.Tree, h api.Handle, s string) {
	t.Helper()
	for _, dir := range []bool{false, true} {
		y, status := tree.Remove(x, h, s, dir)
		holds(t, fmt.Sprintf("Remove(%v, %q, %t)", h, s, dir), x, y, status, func(m *model) uint8 { return m.remove(h, s, dir) })
	}
}

func renames(t *testing.T, x api.Tree, h api.Handle, s string, to api.Handle, toName string) {
	t.Helper()
	y, status := tree.Rename(x, h, s, to, toName)
	holds(t, fmt.Sprintf("Rename(%v, %q, %v, %q)", h, s, to, toName), x, y, status, func(m *model) uint8 { return m.rename(h, s, to, toName) })
}

func writes(t *testing.T, x api.Tree, h api.Handle, off uint32, data []byte) {
	t.Helper()
	y, status := tree.Write(x, h, off, data)
	holds(t, fmt.Sprintf("Write(%v, %d, %d bytes)", h, off, len(data)), x, y, status, func(m *model) uint8 { return m.write(h, off, data) })
}

func resizes(t *testing.T, x api.Tree, h api.Handle, size uint32) {
	t.Helper()
	y, status := tree.Resize(x, h, size)
	holds(t, fmt.Sprintf("Resize(%v, %d)", h, size), x, y, status, func(m *model) uint8 { return m.resize(h, size) })
}

// TestEachCall asks each call once of each base, of each handle and each name.
func TestEachCall(t *testing.T) {
	for what, x := range bases() {
		t.Run(what, func(t *testing.T) {
			was := clone(x)
			for _, h := range slices.Concat(handles(x), stale()) {
				finds(t, x, h)
				for _, s := range slices.Concat(texts(x), wrong()) {
					looksUp(t, x, h, s)
					makes(t, x, h, s)
					removes(t, x, h, s)
				}
			}
			if !like(x, was) {
				t.Error("what was handed in changed")
			}
		})
	}
}

func finds(t *testing.T, x api.Tree, h api.Handle) {
	t.Helper()
	n, is := tree.Find(x, h)
	var want api.Node
	had := modelOf(x).of(h)
	if had != nil {
		want = had.node()
	}
	if is != (had != nil) || !likeNode(n, want) {
		t.Errorf("Find(%v) = %+v, %t; want %+v", h, n, is, want)
	}
}

func looksUp(t *testing.T, x api.Tree, h api.Handle, s string) {
	t.Helper()
	n, status := tree.Lookup(x, h, s)
	var want api.Node
	had, wanted := modelOf(x).lookup(h, s)
	if had != nil {
		want = had.node()
	}
	if status != wanted || !likeNode(n, want) {
		t.Errorf("Lookup(%v, %q) = %+v, %d; want %+v, %d", h, s, n, status, want, wanted)
	}
}

// TestEachRename renames each name of each base's directories to each, and what is not there a few times.
func TestEachRename(t *testing.T) {
	for what, x := range bases() {
		t.Run(what, func(t *testing.T) {
			was := clone(x)
			for _, h := range slices.Concat(handles(x), stale()) {
				for _, s := range slices.Concat(texts(x), wrong()) {
					had, _ := modelOf(x).lookup(h, s)
					if had == nil {
						for _, to := range []api.Handle{root(), handle(2, 3), handle(2, 9), handle(3, 3)} {
							renames(t, x, h, s, to, "a")
							renames(t, x, to, "a", h, s)
							renames(t, x, to, "n00", h, s)
						}
						continue
					}
					for _, to := range handles(x) {
						for _, toName := range texts(x) {
							renames(t, x, h, s, to, toName)
						}
					}
				}
			}
			if !like(x, was) {
				t.Error("what was handed in changed")
			}
		})
	}
}

// TestEachWrite writes to, and resizes, each node of each base, around each limit.
func TestEachWrite(t *testing.T) {
	places := []uint32{0, 1, 2, 3, 4, 63, 64, 65, 4031, 4032, 4033, 4094, 4095, 4096, 4097, 1 << 16, 1 << 31, math.MaxUint32 - 63, math.MaxUint32 - 1, math.MaxUint32}
	data := make([]byte, 200)
	for i := range data {
		data[i] = byte(i + 1)
	}
	for what, x := range bases() {
		t.Run(what, func(t *testing.T) {
			was := clone(x)
			for _, h := range slices.Concat(handles(x), stale()) {
				for _, at := range places {
					for _, size := range []int{0, 1, 2, 64, 65} {
						writes(t, x, h, at, data[:size])
					}
					resizes(t, x, h, at)
				}
				writes(t, x, h, 0, nil)
			}
			if !like(x, was) {
				t.Error("what was handed in changed")
			}
		})
	}
}

func TestLongData(t *testing.T) {
	for _, size := range []int{4095, 4096, 4097, 1 << 16, 1 << 20} {
		for _, off := range []uint32{0, 1, math.MaxUint32} {
			writes(t, some(), handle(2, 9), off, make([]byte, size))
		}
	}
}

// TestStatuses holds in plain words what is told of Make, Remove and Rename, in the chapter's order.
func TestStatuses(t *testing.T) {
	x, full, none := some(), wide(32, 31), with(func(t *api.Tree) { t.Count = 1 << 31 })
	d, e, g, f, old := handle(3, 3), handle(5, 4), handle(7, 6), handle(2, 9), handle(2, 8)
	for i, c := range []struct {
		t      api.Tree
		h      api.Handle
		name   string
		to     api.Handle
		toName string
		want   uint8
	}{
		{x, old, "", f, "", api.StStale}, {x, f, "", old, "", api.StStale}, {x, old, "a", root(), "b", api.StStale}, {x, root(), "a", old, "b", api.StStale},
		{x, f, "", root(), "", api.StNotDir}, {x, root(), "", f, "", api.StNotDir}, {x, root(), "x", f, "a", api.StNotDir},
		{x, root(), "", root(), "a", api.StArg}, {x, root(), "x", root(), "", api.StArg}, {x, root(), "x", root(), "..", api.StArg}, {x, root(), "/", root(), "x", api.StArg},
		{x, root(), "x", root(), "a", api.StNone}, {x, root(), "x", root(), "x", api.StNone}, {none, root(), "x", root(), "a", api.StNone}, {x, d, "a", root(), "a", api.StNone},
		{x, root(), "a", root(), "a", api.StOK}, {none, root(), "a", root(), "a", api.StOK}, {none, root(), "d", root(), "d", api.StOK}, {full, root(), "n05", root(), "n05", api.StOK},
		{x, root(), "d", root(), "a", api.StNotDir}, {x, root(), "d", d, "f", api.StNotDir}, {none, root(), "g", root(), "a", api.StNotDir},
		{x, root(), "a", root(), "g", api.StIsDir}, {x, root(), "a", root(), "d", api.StIsDir}, {none, root(), "a", root(), "d", api.StIsDir},
		{x, root(), "g", root(), "d", api.StNotEmpty}, {x, d, "e", root(), "d", api.StNotEmpty}, {x, root(), "d", d, "e", api.StNotEmpty}, {none, root(), "g", root(), "d", api.StNotEmpty},
		{x, root(), "d", e, "i", api.StLoop}, {x, root(), "d", d, "x", api.StLoop}, {x, root(), "d", e, "x", api.StLoop}, {x, root(), "d", handle(6, 5), "x", api.StLoop},
		{x, d, "e", e, "x", api.StLoop}, {x, d, "e", e, "i", api.StLoop}, {none, root(), "d", d, "x", api.StLoop}, {wide(5, 32), root(), "n01", handle(3, 3), "x", api.StLoop},
		{wide(5, 32), root(), "n03", handle(3, 3), "x", api.StSpace}, {wide(5, 32), root(), "n03", handle(3, 3), "n04", api.StOK}, {wide(5, 31), root(), "n03", handle(3, 3), "x", api.StOK},
		{full, root(), "n05", root(), "x", api.StOK}, {full, root(), "n05", root(), "n06", api.StOK}, {full, handle(3, 3), "n03", root(), "x", api.StSpace}, {full, handle(3, 3), "n03", root(), "n04", api.StOK},
		{none, root(), "a", root(), "x", api.StSpace}, {none, root(), "a", d, "x", api.StSpace}, {none, root(), "a", root(), "b", api.StSpace},
		{x, root(), "a", d, "f", api.StOK}, {x, root(), "g", e, "i", api.StOK}, {x, e, "i", root(), "g", api.StOK}, {x, root(), "d", g, "x", api.StOK}, {x, d, "e", root(), "e", api.StOK}, {x, d, "e", root(), "g", api.StOK},
	} {
		if _, s := tree.Rename(c.t, c.h, c.name, c.to, c.toName); s != c.want {
			t.Errorf("%d: Rename: %d, not %d", i, s, c.want)
		}
	}
	for i, c := range []struct {
		t    api.Tree
		h    api.Handle
		name string
		dir  bool
		want uint8
	}{
		{x, old, "", false, api.StStale}, {x, f, "", false, api.StNotDir}, {x, root(), "", false, api.StArg}, {x, root(), "x", true, api.StNone},
		{x, root(), "d", false, api.StIsDir}, {x, root(), "g", false, api.StIsDir}, {x, root(), "a", true, api.StNotDir}, {x, root(), "d", true, api.StNotEmpty},
		{none, root(), "x", true, api.StNone}, {none, root(), "d", false, api.StIsDir}, {none, root(), "a", true, api.StNotDir}, {none, root(), "d", true, api.StNotEmpty},
		{none, root(), "a", false, api.StSpace}, {none, root(), "g", true, api.StSpace}, {x, root(), "a", false, api.StOK}, {x, root(), "g", true, api.StOK},
	} {
		if _, s := tree.Remove(c.t, c.h, c.name, c.dir); s != c.want {
			t.Errorf("%d: Remove: %d, not %d", i, s, c.want)
		}
	}
	for i, c := range []struct {
		t    api.Tree
		h    api.Handle
		name string
		want uint8
	}{
		{x, old, "", api.StStale}, {x, f, "", api.StNotDir}, {x, root(), "..", api.StArg}, {x, root(), "a", api.StExist}, {none, root(), "a", api.StExist}, {full, root(), "n00", api.StExist},
		{full, root(), "x", api.StSpace}, {full, handle(3, 3), "x", api.StSpace}, {full, handle(2, 2), "x", api.StSpace}, {wide(31, 31), root(), "x", api.StOK}, {wide(32, 5), root(), "x", api.StSpace}, {wide(31, 5), root(), "x", api.StOK},
		{none, root(), "x", api.StSpace}, {with(func(t *api.Tree) { t.Count = 1<<31 - 1 }), root(), "x", api.StOK},
		{with(func(t *api.Tree) { t.LastGen = 1 << 31 }), root(), "x", api.StSpace}, {with(func(t *api.Tree) { t.LastGen = 1<<31 - 1 }), root(), "x", api.StOK}, {x, root(), "x", api.StOK},
	} {
		if _, _, s := tree.Make(c.t, c.h, c.name, true); s != c.want {
			t.Errorf("%d: Make: %d, not %d", i, s, c.want)
		}
	}
}

// TestWhatChanges holds in plain words what a rename, a make and a remove leave.
func TestWhatChanges(t *testing.T) {
	x := some()
	now := uint64(2<<32 + 78)
	y, n, _ := tree.Make(x, handle(3, 3), "ea", true)
	want := some()
	want.Nodes = slices.Insert(want.Nodes, 7, api.Node{Ino: 8, Gen: 13, Dir: true, Change: now})
	want.Nodes[2].Names, want.Nodes[2].Change, want.LastGen, want.Count = names("e", 5, "ea", 8, "f", 4), now, 13, 78
	if !like(y, want) || !likeNode(n, want.Nodes[7]) {
		t.Errorf("Make: %+v", y)
	}
	y, _ = tree.Remove(x, root(), "a", false)
	want = some()
	want.Nodes[0].Names, want.Nodes[0].Change, want.Count = names("b", 9, "d", 3, "g", 7), now, 78
	want.Nodes = slices.Delete(want.Nodes, 1, 2)
	if !like(y, want) {
		t.Errorf("Remove: %+v", y)
	}
	y, _ = tree.Rename(x, root(), "b", handle(5, 4), "h")
	want = some()
	want.Nodes[0].Names, want.Nodes[0].Change, want.Nodes[4].Names, want.Nodes[4].Change, want.Count = names("a", 2, "d", 3, "g", 7), now, names("h", 9, "i", 6), now, 78
	if !like(y, want) {
		t.Errorf("Rename: %+v", y)
	}
	y, _ = tree.Rename(x, root(), "g", root(), "c")
	want = some()
	want.Nodes[0].Names, want.Nodes[0].Change, want.Count = names("a", 2, "b", 9, "c", 7, "d", 3), now, 78
	if !like(y, want) {
		t.Errorf("Rename in a directory: %+v", y)
	}
	y, _ = tree.Rename(x, root(), "b", root(), "a")
	want = some()
	want.Nodes[0].Names, want.Nodes[0].Change, want.Count = names("a", 9, "d", 3, "g", 7), now, 78
	want.Nodes = slices.Delete(want.Nodes, 1, 2)
	if !like(y, want) {
		t.Errorf("Rename onto one in a directory: %+v", y)
	}
	y, _ = tree.Rename(x, root(), "a", handle(3, 3), "f")
	want = some()
	want.Nodes[0].Names, want.Nodes[0].Change, want.Nodes[2].Names, want.Nodes[2].Change, want.Count = names("b", 9, "d", 3, "g", 7), now, names("e", 5, "f", 2), now, 78
	want.Nodes = slices.Delete(want.Nodes, 3, 4)
	if !like(y, want) {
		t.Errorf("Rename onto one elsewhere: %+v", y)
	}
}

// TestBytes holds in plain words what writes and sizes leave of a file.
func TestBytes(t *testing.T) {
	x, h := some(), handle(2, 9)
	for i, c := range []struct {
		do   func(t api.Tree) (api.Tree, uint8)
		want []byte
	}{
		{func(t api.Tree) (api.Tree, uint8) { return tree.Write(t, h, 1, []byte{1}) }, []byte{7, 1, 9}},
		{func(t api.Tree) (api.Tree, uint8) { return tree.Write(t, h, 2, []byte{1, 2}) }, []byte{7, 1, 1, 2}},
		{func(t api.Tree) (api.Tree, uint8) { return tree.Write(t, h, 6, []byte{0}) }, []byte{7, 1, 1, 2, 0, 0, 0}},
		{func(t api.Tree) (api.Tree, uint8) { return tree.Resize(t, h, 7) }, []byte{7, 1, 1, 2, 0, 0, 0}},
		{func(t api.Tree) (api.Tree, uint8) { return tree.Resize(t, h, 2) }, []byte{7, 1}},
		{func(t api.Tree) (api.Tree, uint8) { return tree.Resize(t, h, 4) }, []byte{7, 1, 0, 0}},
		{func(t api.Tree) (api.Tree, uint8) { return tree.Resize(t, h, 0) }, nil},
		{func(t api.Tree) (api.Tree, uint8) { return tree.Resize(t, h, 0) }, nil},
		{func(t api.Tree) (api.Tree, uint8) { return tree.Write(t, h, 2, []byte{3}) }, []byte{0, 0, 3}},
	} {
		y, s := c.do(x)
		n, is := tree.Find(y, h)
		if s != api.StOK || !is || !bytes.Equal(n.Data, c.want) || n.Change != 2<<32+78+uint64(i) || y.Count != 78+uint32(i) {
			t.Errorf("%d: %d, %+v", i, s, n)
		}
		x = y
	}
}

func TestAttr(t *testing.T) {
	for _, c := range []struct {
		n    api.Node
		want api.Attr
	}{
		{api.Node{}, api.Attr{}},
		{some().Nodes[0], api.Attr{H: root(), Dir: true, Size: 4, Change: 1<<32 + 10}},
		{some().Nodes[1], api.Attr{H: handle(2, 9), Size: 3, Change: 2<<32 + 77}},
		{some().Nodes[7], api.Attr{H: handle(9, 2), Size: 4096, Change: 2<<32 + 17}},
		{some().Nodes[6], api.Attr{H: handle(7, 6), Dir: true, Change: 2<<32 + 16}},
		// A node is told by itself, be it one that may be or not.
		{api.Node{Dir: true, Data: make([]byte, 9), Names: names("x", 1, "a", 1)}, api.Attr{Dir: true, Size: 2}},
		{api.Node{Data: make([]byte, 5000), Names: names("x", 1)}, api.Attr{Size: 5000}},
		{api.Node{Ino: math.MaxUint32, Gen: math.MaxUint32, Change: math.MaxUint64}, api.Attr{H: handle(math.MaxUint32, math.MaxUint32), Change: math.MaxUint64}},
	} {
		if a := tree.Attr(c.n); a != c.want {
			t.Errorf("Attr(%+v) = %+v", c.n, a)
		}
	}
}

// TestTurns does long turns of calls beside the model.
func TestTurns(t *testing.T) {
	ok := map[string]int{}
	for seed := range int64(60) {
		r := rand.New(rand.NewSource(seed))
		x := tree.New()
		if seed%3 > 0 {
			x = some()
		}
		// In long turns of few names trees grow full by many directories.
		few := slices.Concat(texts(some())[:3+r.Intn(5)], wrong()[:r.Intn(2)])
		for range 400 {
			h, to := someHandle(r, x), someHandle(r, x)
			s, toName := pick(r, few...), pick(r, few...)
			m, y, status, want := modelOf(x), api.Tree{}, uint8(0), uint8(0)
			what := pick(r, "Make", "Make", "Make", "Remove", "Rename", "Rename", "Write", "Resize")
			dir, off := r.Intn(2) == 0, uint32(pick(r, 0, 3, 64, 4000, 4090, 4096))
			data := bytes.Repeat([]byte{byte(r.Intn(255) + 1)}, r.Intn(66))
			switch what {
			case "Make":
				y, _, status = tree.Make(x, h, s, dir)
				_, want = m.make(h, s, dir)
			case "Remove":
				y, status = tree.Remove(x, h, s, dir)
				want = m.remove(h, s, dir)
			case "Rename":
				y, status = tree.Rename(x, h, s, to, toName)
				want = m.rename(h, s, to, toName)
			case "Write":
				y, status = tree.Write(x, h, off, data)
				want = m.write(h, off, data)
			case "Resize":
				y, status = tree.Resize(x, h, off)
				want = m.resize(h, off)
			}
			if status != want || !like(y, m.tree()) || !tree.May(y) || !reflect.DeepEqual(even(y).Sessions, even(x).Sessions) {
				t.Fatalf("seed %d: %s(%v, %q, %v, %q, %d): %d, not %d", seed, what, h, s, to, toName, off, status, want)
			}
			if status == api.StOK {
				ok[what]++
			}
			x = y
		}
	}
	for _, what := range []string{"Make", "Remove", "Rename", "Write", "Resize"} {
		if ok[what] < 100 {
			t.Errorf("%s was StOK %d times", what, ok[what])
		}
	}
}

func someHandle(r *rand.Rand, t api.Tree) api.Handle {
	n := pick(r, t.Nodes...)
	if r.Intn(20) == 0 {
		n.Gen--
	}
	return handle(n.Ino, n.Gen)
}
