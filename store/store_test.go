package store_test

import (
	"bytes"
	"encoding/binary"
	"fmt"
	"math/rand"
	"slices"
	"testing"

	"wharfage/api"
	"wharfage/batch"
	"wharfage/disk"
	"wharfage/journal"
	"wharfage/seal"
	"wharfage/store"
)

// most is the greatest number that a leaf has.
const most = 1 << 31

func row(key string, value ...byte) api.Row { return api.Row{Key: key, Value: value} }

func put(key string, value ...byte) api.Change { return api.Change{Key: key, Value: value} }

func gone(key string) api.Change { return api.Change{Key: key, Gone: true} }

func rows(l ...api.Row) []api.Row { return l }

func changes(l ...api.Change) []api.Change { return l }

// long is n bytes of which those beside one another are unlike.
func long(first byte, n int) []byte {
	b := make([]byte, n)
	for i := range b {
		b[i] = first + byte(i)
	}
	return b
}

// absent is changes that take away rows of n keys, of 17 bytes each at least.
func absent(n int) (l []api.Change) {
	for i := range n {
		l = append(l, gone(fmt.Sprintf("%05dxxxxxxxxxxx", i)))
	}
	return l
}

func brief(x any) string { return fmt.Sprintf("%.300s", fmt.Sprintf("%v", x)) }

func same(a, b []api.Row) bool {
	return slices.EqualFunc(a, b, func(x, y api.Row) bool { return x.Key == y.Key && bytes.Equal(x.Value, y.Value) })
}

func is(t *testing.T, what string, got, want api.Errno) {
	t.Helper()
	if got != want {
		t.Errorf("%s: %d; want %d", what, got, want)
	}
}

// must is is, where nothing behind it tells anything if it fails.
func must(t *testing.T, what string, got api.Errno) {
	t.Helper()
	if got != api.OK {
		t.Fatalf("%s: %d", what, got)
	}
}

// refused holds that there is an error, and no store beside it.
func refused(t *testing.T, what string, want api.Errno) func(*store.Store, api.Errno) {
	return func(s *store.Store, e api.Errno) {
		t.Helper()
		if s != nil || e != want {
			t.Errorf("%s = %v, %d; want %d", what, s, e, want)
		}
	}
}

func newDisk(t *testing.T, blocks int) *disk.Disk {
	t.Helper()
	d, e := disk.New(blocks)
	must(t, "New", e)
	return d
}

func made(t *testing.T, blocks int) (*disk.Disk, *store.Store) {
	t.Helper()
	d := newDisk(t, blocks)
	s, e := store.Make(d)
	must(t, "Make", e)
	return d, s
}

func opened(t *testing.T, d *disk.Disk) *store.Store {
	t.Helper()
	s, e := store.Open(d)
	must(t, "Open", e)
	return s
}

// batches is what counts on a disk, as its journal tells it.
func batches(t *testing.T, d *disk.Disk) [][]byte {
	t.Helper()
	j, e := journal.Open(d)
	must(t, "journal.Open", e)
	return j.Batches()
}

func asBytes(t *testing.T, l []api.Change) []byte {
	t.Helper()
	b, e := batch.Put(l)
	must(t, "Put", e)
	return b
}

func applied(t *testing.T, table []api.Row, l []api.Change) []api.Row {
	t.Helper()
	out, e := batch.Apply(table, l)
	must(t, "Apply", e)
	return out
}

func tells(t *testing.T, s *store.Store, room int, want ...api.Row) {
	t.Helper()
	if got := s.Rows(); !same(got, want) || s.Room() != room {
		t.Errorf("Rows = %s, Room = %d; want %s, %d", brief(got), s.Room(), brief(want), room)
	}
}

func blocks(t *testing.T, d *disk.Disk) (l []api.Block) {
	t.Helper()
	for n := range d.Blocks() {
		b, e := d.Sure(n)
		must(t, "Sure", e)
		l = append(l, b)
	}
	return l
}

// still holds that what is done does no work, and leaves all as it is.
func still(t *testing.T, d *disk.Disk, s *store.Store, do func()) {
	t.Helper()
	was, steps, loose, table, room := blocks(t, d), d.Steps(), d.Loose(), s.Rows(), s.Room()
	do()
	if !slices.Equal(blocks(t, d), was) || d.Steps() != steps || d.Loose() != loose {
		t.Errorf("%d steps, %d loose", d.Steps()-steps, d.Loose()-loose)
	}
	tells(t, s, room, table...)
}

// write lays down a block.
func write(t *testing.T, d *disk.Disk, at int, b api.Block) {
	t.Helper()
	must(t, "Write", d.Write(at, b))
	must(t, "Flush", d.Flush())
}

// headed is a block that is no leaf, with a number at the beginning of its second quarter.
func headed(n uint32) (b api.Block) {
	binary.BigEndian.PutUint32(b[16:], n)
	return b
}

// darken lets the power go.
func darken(t *testing.T, d *disk.Disk) {
	t.Helper()
	must(t, "Arm", d.Arm(1))
	is(t, "Flush", d.Flush(), api.ErrPower)
}

// fill commits small changes of one key, till no block is free. It tells the last value.
func fill(t *testing.T, s *store.Store, key string) (last byte) {
	t.Helper()
	for s.Room() > 0 {
		if last++; last > 100 {
			t.Fatalf("Room is still %d", s.Room())
		}
		must(t, "Commit", s.Commit(changes(put(key, last))))
	}
	return last
}

// TestExamples holds the chapter's table of examples, in its order.
func TestExamples(t *testing.T) {
	d, s := made(t, 64)
	tells(t, s, 31)
	is(t, "Commit of none", s.Commit(nil), api.OK)
	tells(t, s, 31)
	is(t, "Commit of a", s.Commit(changes(put("a", 7))), api.OK)
	tells(t, s, 30, row("a", 7))
	is(t, "Commit of 1400 bytes", s.Commit(changes(put("b", long(1, 1400)...))), api.ErrFull)
	tells(t, s, 30, row("a", 7))
	b := long(2, 1200)
	is(t, "Commit of 1200 bytes", s.Commit(changes(put("b", b...))), api.OK)
	is(t, "Commit of 1200 bytes", s.Commit(changes(put("b", b...))), api.OK)
	tells(t, s, 3, row("a", 7), row("b", b...))
	tells(t, opened(t, d), 3, row("a", 7), row("b", b...))
}

// TestMake makes stores on disks on which something else stood.
func TestMake(t *testing.T) {
	for _, many := range []int{64, 65, 101, 400} {
		d := newDisk(t, many)
		for turn := range 3 {
			s, e := store.Make(d)
			must(t, "Make", e)
			tells(t, s, many/2-1)
			tells(t, opened(t, d), many/2-1)
			if l := batches(t, d); len(l) != 1 || len(l[0]) > 0 || d.Loose() > 0 {
				t.Errorf("%d: batches are %x", many, l)
			}
			for range 20 * turn {
				must(t, "Commit", s.Commit(changes(put("a", long(byte(turn), 300)...))))
			}
		}
	}
}

// TestMakeRefuses tells journal's errors; with none of them is anything done.
func TestMakeRefuses(t *testing.T) {
	for _, d := range []*disk.Disk{nil, {}} {
		refused(t, "Make", api.ErrNil)(store.Make(d))
	}
	for _, c := range []struct {
		number uint32
		e      api.Errno
	}{{most - 1, api.OK}, {most, api.ErrLimit}, {most + 1, api.ErrLimit}, {1<<32 - 1, api.ErrLimit}} {
		d := newDisk(t, 64)
		write(t, d, 40, headed(c.number))
		was := d.Steps()
		s, e := store.Make(d)
		if e != c.e || (s == nil) != (e != api.OK) || (d.Steps() == was) != (e != api.OK) {
			t.Errorf("Make = %v, %d; want %d", s, e, c.e)
		}
		darken(t, d)
		refused(t, "Make", api.ErrPower)(store.Make(d))
	}
	for at := 1; at <= 5; at++ {
		d, _ := made(t, 64)
		must(t, "Arm", d.Arm(at))
		refused(t, "Make", api.ErrPower)(store.Make(d))
	}
}

// TestOpenRefuses tells journal's errors, and ErrForm of a batch that is no changes, whatever is wrong with it and wherever it stands.
func TestOpenRefuses(t *testing.T) {
	for _, d := range []*disk.Disk{nil, {}} {
		refused(t, "Open", api.ErrNil)(store.Open(d))
	}
	d := newDisk(t, 64)
	refused(t, "Open", api.ErrForm)(store.Open(d))
	darken(t, d)
	refused(t, "Open", api.ErrPower)(store.Open(d))
	d, _ = made(t, 64)
	write(t, d, 63, headed(most+1))
	refused(t, "Open", api.ErrForm)(store.Open(d))
	good := [][]byte{nil, asBytes(t, changes(put("a", 7))), asBytes(t, changes(put("a", 8), gone("b")))}
	for _, bad := range [][]byte{
		{0}, {0, 1}, {0, 1, 'a'}, {0, 1, 'a', 0}, {0, 1, 'a', 0, 2}, // they end too soon
		{1, 1, 'a', 0, 1}, {0, 0, 0, 1}, {0, 1, 'a', 0, 1, 0, 1, 'b', 0, 1, 0, 1, 'a', 0, 1}, {0, 1, 'a', 0, 1, 0, 1, 'a', 0, 1}, {0, 1, 'a', 0, 1, 0, 2, 'a', 'b', 0, 1},
		append([]byte{0, 17}, append(long('a', 17), 0, 1)...), make([]byte, 42), append(asBytes(t, changes(put("a", 7))), 0),
	} {
		for at := range 4 {
			l := slices.Insert(slices.Clone(good), at, bad)
			d := newDisk(t, 64)
			j, e := journal.Make(d, l[0])
			must(t, "journal.Make", e)
			for _, b := range l[1:] {
				must(t, "Append", j.Append(b))
			}
			refused(t, fmt.Sprintf("Open of %x at %d", bad, at), api.ErrForm)(store.Open(d))
		}
	}
}

// TestOpenReads opens journals that none of this package laid.
func TestOpenReads(t *testing.T) {
	all := [][]api.Change{
		{put("b", 1), put("c", 2)}, nil, {put("a", 3), put("b", 4, 4)}, {gone("c"), gone("d")}, {gone("a")},
		{put("c")}, {put("d", 5)}, {gone("d")}, {put("a", long(1, 200)...), put("b"), put("c", 6)}, {}, {put("d", 7)},
	}
	for from := range all {
		for to := from + 1; to <= len(all); to++ {
			d := newDisk(t, 64)
			j, e := journal.Make(d, asBytes(t, changes(put("gone", 1))))
			must(t, "journal.Make", e)
			must(t, "Replace", j.Replace(asBytes(t, all[from])))
			want := applied(t, nil, all[from])
			for _, l := range all[from+1 : to] {
				must(t, "Append", j.Append(asBytes(t, l)))
				want = applied(t, want, l)
			}
			steps := d.Steps()
			tells(t, opened(t, d), j.Room(), want...)
			if d.Steps() != steps || d.Loose() != 0 {
				t.Errorf("Open does work: %d steps", d.Steps()-steps)
			}
		}
	}
}

// notChanges is lists that are none.
func notChanges() [][]api.Change {
	return [][]api.Change{
		{{}}, {gone("")}, {put(string(long('a', 17)), 1)}, {put("a", make([]byte, api.MaxValue+1)...)}, {{Key: "a", Value: []byte{1}, Gone: true}},
		{put("b"), put("a")}, {put("a"), put("a")}, {put("a"), gone("a")}, {put("a"), put("b"), put("ab")}, {put("\xff"), put("\xfe")},
	}
}

// TestNone asks what no call made.
func TestNone(t *testing.T) {
	for _, s := range []*store.Store{nil, {}, new(store.Store)} {
		for _, l := range append(notChanges(), nil, changes(), changes(put("a", 1))) {
			is(t, "Commit", s.Commit(l), api.ErrNil)
			tells(t, s, 0)
		}
	}
}

// TestDark commits in the dark, where no other error but ErrNil is told.
func TestDark(t *testing.T) {
	d, s := made(t, 64)
	must(t, "Commit", s.Commit(changes(put("a", 7))))
	darken(t, d)
	still(t, d, s, func() {
		for _, l := range append(notChanges(), nil, changes(), changes(put("a", 1)), changes(put("b", make([]byte, api.MaxValue)...))) {
			is(t, "Commit", s.Commit(l), api.ErrPower)
		}
	})
	must(t, "Crash", d.Crash(nil))
	must(t, "Commit", s.Commit(changes(put("b", 8))))
	tells(t, s, 29, row("a", 7), row("b", 8))
	tells(t, opened(t, d), 29, row("a", 7), row("b", 8))
}

// TestNoChanges: what is no changes is told from what there is no room for; none at all are no work, also where nothing fits.
func TestNoChanges(t *testing.T) {
	d, s := made(t, 64)
	ask := func() {
		for _, l := range append(notChanges(), append(absent(100), put("00"))) {
			is(t, "Commit "+brief(l), s.Commit(l), api.ErrArg)
		}
		is(t, "Commit of none", s.Commit(nil), api.OK)
		is(t, "Commit of none", s.Commit(changes()), api.OK)
	}
	still(t, d, s, ask)
	must(t, "Commit", s.Commit(changes(put("a", long(3, 31*42-5)...))))
	tells(t, s, 0, row("a", long(3, 31*42-5)...))
	still(t, d, s, ask)
}

// TestCommitEdges commits what may just be.
func TestCommitEdges(t *testing.T) {
	d, s := made(t, 1000)
	key := string(long('a', 16))
	value := long(9, api.MaxValue)
	must(t, "Commit", s.Commit(changes(put(key, value...))))
	tells(t, s, 499-196, row(key, value...))
	must(t, "Commit", s.Commit(changes(put("\x00"), put("\x00\x00"), put("a"), put("\xff", 0))))
	want := rows(row("\x00"), row("\x00\x00"), row("a"), row(key, value...), row("\xff", 0))
	tells(t, s, 499-197, want...)
	tells(t, opened(t, d), 499-197, want...)
}

// TestCommitAppends: changes are laid as they are, also where they change nothing.
func TestCommitAppends(t *testing.T) {
	d, s := made(t, 64)
	want, table := [][]byte{nil}, rows()
	for i, l := range [][]api.Change{
		{put("b", 1)}, {put("b", 1)}, {gone("z")}, {gone("b")}, {gone("b")}, {put("b")}, {put("a", 2), gone("b"), put("c", long(1, 99)...)}, {put("c", 3)}, {gone("a"), gone("c")}, {put("a", 1), put("ab", 2), put("abc", 3)},
	} {
		steps, room := d.Steps(), s.Room()
		must(t, "Commit", s.Commit(l))
		want = append(want, asBytes(t, l))
		table = applied(t, table, l)
		leaves := (len(want[i+1]) + 41) / 42
		tells(t, s, room-leaves, table...)
		tells(t, opened(t, d), room-leaves, table...)
		if got := batches(t, d); !slices.EqualFunc(got, want, bytes.Equal) || d.Steps() != steps+leaves+1 || d.Loose() > 0 {
			t.Errorf("%d: batches are %x; want %x", i, got, want)
		}
	}
}

// TestCommitReplaces: without room the table, without what it once was, is laid in the place of all.
func TestCommitReplaces(t *testing.T) {
	for _, c := range []struct {
		l    []api.Change
		want []api.Row
	}{
		{changes(put("a", 9)), rows(row("a", 9), row("k", 5))},
		{changes(put("b")), rows(row("a", 31), row("b"), row("k", 5))},
		{changes(gone("k")), rows(row("a", 31))},
		{changes(gone("z")), rows(row("a", 31), row("k", 5))},
		{changes(gone("a"), gone("k")), rows()},
		{changes(gone("a"), gone("b"), put("c", long(1, 60)...), put("k", 6)), rows(row("c", long(1, 60)...), row("k", 6))},
		{append(absent(100), gone("a")), rows(row("k", 5))},
	} {
		d, s := made(t, 66)
		must(t, "Commit", s.Commit(changes(put("k", 5))))
		if last := fill(t, s, "a"); last != 31 {
			t.Fatalf("a is %d", last)
		}
		steps := d.Steps()
		is(t, "Commit", s.Commit(c.l), api.OK)
		l, e := batch.Between(nil, c.want)
		must(t, "Between", e)
		b := asBytes(t, l)
		leaves := max(1, (len(b)+41)/42)
		tells(t, s, 33-leaves, c.want...)
		tells(t, opened(t, d), 33-leaves, c.want...)
		if got := batches(t, d); len(got) != 1 || !bytes.Equal(got[0], b) || d.Steps() != steps+leaves+1 || d.Loose() > 0 {
			t.Errorf("batches are %x; want %x", got, b)
		}
	}
}

// TestCommitFull goes to the last byte for which there is room: behind what counts, and in the other half.
func TestCommitFull(t *testing.T) {
	for _, many := range []int{64, 65, 66, 128} {
		half := many / 2
		// 5 bytes tell the key, and that there is a value.
		d, s := made(t, many)
		must(t, "Commit", s.Commit(changes(put("a", long(1, (half-1)*42-5)...))))
		tells(t, s, 0, row("a", long(1, (half-1)*42-5)...))
		must(t, "Commit", s.Commit(changes(put("a", long(2, half*42-5)...))))
		tells(t, s, 0, row("a", long(2, half*42-5)...))
		still(t, d, s, func() {
			is(t, "Commit", s.Commit(changes(put("a", long(3, half*42-4)...))), api.ErrFull)
			is(t, "Commit", s.Commit(changes(put("b"))), api.ErrFull)
			is(t, "Commit", s.Commit(changes(put("b", make([]byte, api.MaxValue)...))), api.ErrFull)
			tells(t, opened(t, d), 0, row("a", long(2, half*42-5)...))
		})
		must(t, "Commit", s.Commit(changes(gone("a"))))
		tells(t, s, half-1)
		d, s = made(t, many)
		must(t, "Commit", s.Commit(changes(put("a", long(1, (half-1)*42-4)...))))
		tells(t, s, 0, row("a", long(1, (half-1)*42-4)...))
		if got := batches(t, d); len(got) != 1 {
			t.Errorf("batches are %x", got)
		}
	}
}

// TestCommitOfMuch: changes that are too long for any batch are done where their table is not.
func TestCommitOfMuch(t *testing.T) {
	l := absent(40000)
	if n := len(asBytes(t, l)); n <= api.MaxBatch {
		t.Fatalf("only %d bytes", n)
	}
	for _, many := range []int{64, api.MaxBlocks} {
		d, s := made(t, many)
		must(t, "Commit", s.Commit(changes(put("a", 7))))
		is(t, "Commit", s.Commit(l), api.OK)
		tells(t, s, many/2-1, row("a", 7))
		tells(t, opened(t, d), many/2-1, row("a", 7))
		for i := range l {
			l[i] = put(l[i].Key)
		}
		still(t, d, s, func() { is(t, "Commit", s.Commit(l), api.ErrFull) })
		l = absent(40000)
	}
}

// TestCommitOfLastNumbers: where numbers end, there is no room either.
func TestCommitOfLastNumbers(t *testing.T) {
	d := newDisk(t, 64)
	write(t, d, 63, headed(most-4))
	s, e := store.Make(d)
	must(t, "Make", e)
	must(t, "Commit", s.Commit(changes(put("a", 7))))
	still(t, d, s, func() {
		is(t, "Commit", s.Commit(changes(put("a", long(1, 80)...))), api.ErrFull)
		is(t, "Commit", s.Commit(changes(put("b", long(1, 2000)...))), api.ErrFull)
	})
	// Three leaves, or one with the table.
	must(t, "Commit", s.Commit(absent(7)))
	tells(t, s, 31, row("a", 7))
	must(t, "Commit", s.Commit(changes(put("b", 8))))
	tells(t, s, 30, row("a", 7), row("b", 8))
	for _, x := range []*store.Store{s, opened(t, d)} {
		still(t, d, x, func() {
			is(t, "Commit", x.Commit(changes(gone("a"))), api.ErrFull)
			is(t, "Commit", x.Commit(changes(put("", 1))), api.ErrArg)
			is(t, "Commit", x.Commit(nil), api.OK)
		})
	}
	number, _, e := seal.Get(blocks(t, d)[33])
	if must(t, "seal.Get", e); number != most {
		t.Errorf("the last number is %d", number)
	}
}

// TestSharesNothing changes what was handed in, and what was answered.
func TestSharesNothing(t *testing.T) {
	d, s := made(t, 64)
	want := rows(row("a", 1, 2, 3), row("b", 4, 5), row("c", long(7, 50)...))
	room := append(long(7, 50), 99, 99)
	l := changes(put("a", 1, 2, 3), put("b", 4, 5), put("c", room[:50]...), put("d"))
	l[2].Value = room[:50]
	must(t, "Commit", s.Commit(l[:3]))
	if !bytes.Equal(room, append(long(7, 50), 99, 99)) || l[3].Key != "d" || len(l[0].Value) != 3 || l[0].Value[0] != 1 {
		t.Errorf("what was handed in became %s", brief(l))
	}
	for i := range l {
		clear(l[i].Value)
		l[i].Key = "x"
	}
	for _, x := range []*store.Store{s, opened(t, d)} {
		tells(t, x, 29, want...)
		got, other := x.Rows(), x.Rows()
		for i := range got {
			b := got[i].Value
			clear(b[:cap(b)])
			got[i].Key = "x"
			if i+1 < len(got) && !bytes.Equal(got[i+1].Value, want[i+1].Value) {
				t.Errorf("two values share memory: %v", got[i+1])
			}
		}
		_ = append(got[:1], row("y", 1))
		if !same(other, want) {
			t.Errorf("two answers share memory: %v", other)
		}
		tells(t, x, 29, want...)
	}
	// What replaces all is of what is held, too.
	fill(t, s, "a")
	must(t, "Commit", s.Commit(changes(gone("a"))))
	tells(t, s, 30, want[1:]...)
}

// TestDiskIsTheCallers: the store works on the disk that it was handed, not on one like it.
func TestDiskIsTheCallers(t *testing.T) {
	d, s := made(t, 64)
	c := d.Copy()
	must(t, "Commit", s.Commit(changes(put("a", 7))))
	tells(t, opened(t, c), 31)
	tells(t, opened(t, d), 30, row("a", 7))
	darken(t, c)
	is(t, "Commit", s.Commit(changes(put("a", 8))), api.OK)
	darken(t, d)
	is(t, "Commit", s.Commit(changes(put("a", 9))), api.ErrPower)
}

// histories are disks with a store, and with what else was left on them.
func histories(t *testing.T) []*disk.Disk {
	t.Helper()
	var l []*disk.Disk
	keep := func(d *disk.Disk) { l = append(l, d.Copy()) }
	d, s := made(t, 64)
	keep(d)
	must(t, "Commit", s.Commit(changes(put("a", 1), put("b", long(1, 40)...))))
	keep(d)
	// Behind what counts stands what a cut left: the second leaf and the third one.
	must(t, "Arm", d.Arm(4))
	is(t, "Commit", s.Commit(changes(put("c", long(2, 100)...))), api.ErrPower)
	must(t, "Crash", d.Crash([]int{6, 15, 15}))
	keep(d)
	s = opened(t, d)
	for range 3 {
		fill(t, s, "k")
		keep(d)
		must(t, "Commit", s.Commit(changes(put("b", 2))))
		keep(d)
	}
	fill(t, s, "k")
	// In the other half the first leaf is as it was, and what a cut left stands behind it.
	must(t, "Arm", d.Arm(4))
	is(t, "Commit", s.Commit(changes(put("b", long(5, 100)...))), api.ErrPower)
	must(t, "Crash", d.Crash([]int{0, 15, 15}))
	keep(d)
	return l
}

// commits are changes of one leaf, and of two.
func commits() [][]api.Change {
	return [][]api.Change{{put("a", 9)}, {gone("a"), gone("b"), put("c")}, {put("a", long(3, 30)...), gone("b"), put("c", long(4, 20)...), gone("k")}}
}

// cut is the power cut in a Commit of so many writes: at which step, and what of the queue is kept.
type cut struct {
	writes, at, bits int
}

// loose tells how many writes wait when the power goes; dark tells whether it goes at all.
func (c cut) loose() int { return min(c.at-1, c.writes) }

func (c cut) dark() bool { return c.at <= c.writes+1 }

// all tells whether each quarter is kept of all that was to be written.
func (c cut) all() bool { return c.loose() == c.writes && c.bits == 1<<(4*c.writes)-1 }

// lost commits, and loses the power.
func (c cut) lost(t *testing.T, d *disk.Disk, s *store.Store, l []api.Change) {
	t.Helper()
	must(t, "Arm", d.Arm(c.at))
	want, loose := api.OK, 0
	if c.dark() {
		want, loose = api.ErrPower, c.loose()
	}
	is(t, "Commit", s.Commit(l), want)
	if d.Loose() != loose || d.Dark() != c.dark() {
		t.Errorf("Loose = %d, Dark = %v; want %d", d.Loose(), d.Dark(), loose)
	}
	must(t, "Crash", d.Crash([]int{c.bits, c.bits >> 4, 15}))
}

// cuts does what is told with each cut that some history and Commit has, with all quarters that may be there.
func cuts(t *testing.T, do func(d *disk.Disk, s *store.Store, l []api.Change, c cut)) {
	t.Helper()
	for n, was := range histories(t) {
		for m, l := range commits() {
			d := was.Copy()
			must(t, "Commit", opened(t, d).Commit(l))
			c := cut{writes: d.Steps() - was.Steps() - 1}
			if c.writes > 2 {
				t.Fatalf("%d writes", c.writes)
			}
			for c.at = 1; c.at <= c.writes+2; c.at++ {
				for c.bits = range 1 << (4 * c.loose()) {
					d := was.Copy()
					do(d, opened(t, d), l, c)
					if t.Failed() {
						t.Fatalf("history %d, commit %d, %+v", n, m, c)
					}
				}
			}
		}
	}
}

// TestCuts holds that the table is that ahead of a Commit or that behind it, and stays so whatever is done later.
func TestCuts(t *testing.T) {
	whole, torn := 0, 0
	cuts(t, func(d *disk.Disk, s *store.Store, l []api.Change, c cut) {
		was, room := s.Rows(), s.Room()
		now := applied(t, was, l)
		c.lost(t, d, s, l)
		if !c.dark() {
			tells(t, opened(t, d), s.Room(), now...)
			tells(t, s, s.Room(), now...)
			return
		}
		tells(t, s, room, was...)
		o := opened(t, d)
		got := o.Rows()
		switch {
		case same(got, now):
			whole++
		case same(got, was) && !c.all():
			torn++
		default:
			t.Fatalf("Rows = %s; want %s or %s", brief(got), brief(was), brief(now))
		}
		for k := range byte(3) {
			later := changes(put("a", k), put("later", long(k, 20*int(k))...))
			is(t, "Commit", o.Commit(later), api.OK)
			got = applied(t, got, later)
			tells(t, o, o.Room(), got...)
			o = opened(t, d)
			tells(t, o, o.Room(), got...)
		}
	})
	if whole == 0 || torn == 0 {
		t.Errorf("%d whole, %d torn", whole, torn)
	}
}

// TestCutsAndOn goes on with the very store that met the end of the power: what is told OK is there.
func TestCutsAndOn(t *testing.T) {
	whole, torn := 0, 0
	cuts(t, func(d *disk.Disk, s *store.Store, l []api.Change, c cut) {
		was := s.Rows()
		now := applied(t, was, l)
		if c.lost(t, d, s, l); !c.dark() {
			return
		}
		still(t, d, s, func() {
			is(t, "Commit", s.Commit(changes(put("e", make([]byte, 2000)...))), api.ErrFull)
			is(t, "Commit", s.Commit(changes(put(""))), api.ErrArg)
			is(t, "Commit", s.Commit(nil), api.OK)
		})
		for k := range byte(3) {
			later := changes(put("e", k), put("f", long(k, 40*int(k))...))
			is(t, "Commit", s.Commit(later), api.OK)
			was, now = applied(t, was, later), applied(t, now, later)
			got := s.Rows()
			if !same(got, was) && !same(got, now) {
				t.Fatalf("Rows = %s; want %s or %s", brief(got), brief(was), brief(now))
			}
			if same(got, now) {
				whole++
			} else {
				torn++
			}
			tells(t, opened(t, d), s.Room(), got...)
		}
	})
	if whole == 0 || torn == 0 {
		t.Errorf("%d whole, %d torn", whole, torn)
	}
}

// model is a table as a map has it.
type model map[string]string

func (m model) with(l []api.Change) model {
	out := model{}
	for k, v := range m {
		out[k] = v
	}
	for _, c := range l {
		if c.Gone {
			delete(out, c.Key)
		} else {
			out[c.Key] = string(c.Value)
		}
	}
	return out
}

func (m model) rows() (l []api.Row) {
	for k, v := range m {
		l = append(l, row(k, []byte(v)...))
	}
	slices.SortFunc(l, func(a, b api.Row) int { return bytes.Compare([]byte(a.Key), []byte(b.Key)) })
	return l
}

// someChanges is changes of few keys, some of them long.
func someChanges(r *rand.Rand) (l []api.Change) {
	for _, key := range []string{"\x00", "a", "ab", "b", "k1", "k2", "\xfe\xff"} {
		switch r.Intn(8) {
		case 0:
			l = append(l, gone(key))
		case 1:
			l = append(l, put(key, long(byte(r.Intn(256)), r.Intn(30))...))
		case 2:
			l = append(l, put(key, long(byte(r.Intn(256)), r.Intn(150))...))
		}
	}
	if r.Intn(9) == 0 {
		l = append(l, put("\xff", long(0, r.Intn(1400))...))
	} else if r.Intn(3) == 0 {
		l = append(l, gone("\xff"))
	}
	return l
}

// TestManyTurns holds a store against a map, with many cuts between.
func TestManyTurns(t *testing.T) {
	r := rand.New(rand.NewSource(8))
	count := map[api.Errno]int{}
	for turn := range 40 {
		d, s := made(t, 64+turn%5)
		m := model{}
		for range 150 {
			l := someChanges(r)
			if r.Intn(3) == 0 {
				must(t, "Arm", d.Arm(1+r.Intn(12)))
			}
			was, room := s.Rows(), s.Room()
			e := s.Commit(l)
			count[e]++
			switch e {
			case api.OK:
				m = m.with(l)
				must(t, "Crash", d.Crash([]int{r.Intn(16)}))
			case api.ErrFull:
				tells(t, s, room, was...)
				must(t, "Arm", d.Arm(0))
			case api.ErrPower:
				tells(t, s, room, was...)
				must(t, "Crash", d.Crash([]int{15, r.Intn(16), 15, 15, r.Intn(16), 15, 15, 15, 15}))
				s = opened(t, d)
				if now := m.with(l); same(s.Rows(), now.rows()) {
					m = now
				}
			default:
				t.Fatalf("Commit: %d", e)
			}
			tells(t, s, s.Room(), m.rows()...)
			tells(t, opened(t, d), s.Room(), m.rows()...)
			if t.Failed() {
				t.FailNow()
			}
		}
	}
	for _, e := range []api.Errno{api.OK, api.ErrFull, api.ErrPower} {
		if count[e] < 50 {
			t.Errorf("%d commits told %d", count[e], e)
		}
	}
}
