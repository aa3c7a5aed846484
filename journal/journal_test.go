package journal_test

import (
	"bytes"
	"encoding/binary"
	"math"
	"slices"
	"testing"

	"wharfage/api"
	"wharfage/disk"
	"wharfage/journal"
	"wharfage/seal"
)

const most = 1 << 31

// row is n bytes of which those beside one another are unlike.
func row(first byte, n int) []byte {
	b := make([]byte, n)
	for i := range b {
		b[i] = first + byte(i)
	}
	return b
}

// leaf is a sealed block whose body begins as said, whatever the chapter has to say about it.
func leaf(number uint32, last, many byte, b ...byte) api.Block {
	block, _ := seal.Put(number, append([]byte{last, many}, b...))
	return block
}

// laid is the leaves of a batch, as the chapter describes them.
func laid(number uint32, b []byte) (l []api.Block) {
	for len(b) > 42 {
		l = append(l, leaf(number, 0, 42, b[:42]...))
		number, b = number+1, b[42:]
	}
	return append(l, leaf(number, 1, byte(len(b)), b...))
}

// headed is a block that is none of the journal's, with these numbers at the beginnings of its quarters (0 behind them).
func headed(n ...uint32) (b api.Block) {
	copy(b[:], bytes.Repeat([]byte{0xee}, 64))
	for q, x := range append(n, make([]uint32, 4-len(n))...) {
		binary.BigEndian.PutUint32(b[16*q:], x)
	}
	return b
}

func newDisk(t *testing.T, blocks int) *disk.Disk {
	t.Helper()
	d, e := disk.New(blocks)
	if e != api.OK {
		t.Fatalf("New(%d): %d", blocks, e)
	}
	return d
}

// write lays blocks down from a place on.
func write(t *testing.T, d *disk.Disk, at int, l ...api.Block) {
	t.Helper()
	for i, b := range l {
		is(t, "Write", d.Write(at+i, b), api.OK)
	}
	is(t, "Flush", d.Flush(), api.OK)
}

func made(t *testing.T, blocks int, first []byte) (*disk.Disk, *journal.Journal) {
	t.Helper()
	d := newDisk(t, blocks)
	j, e := journal.Make(d, first)
	if e != api.OK || j == nil {
		t.Fatalf("Make(%d bytes): %d", len(first), e)
	}
	return d, j
}

func opened(t *testing.T, d *disk.Disk) *journal.Journal {
	t.Helper()
	j, e := journal.Open(d)
	if e != api.OK || j == nil {
		t.Fatalf("Open: %d", e)
	}
	return j
}

func is(t *testing.T, what string, got, want api.Errno) {
	t.Helper()
	if got != want {
		t.Errorf("%s: %d; want %d", what, got, want)
	}
}

// refused holds that there is an error, and no journal beside it.
func refused(t *testing.T, what string, want api.Errno) func(*journal.Journal, api.Errno) {
	return func(j *journal.Journal, e api.Errno) {
		t.Helper()
		if j != nil || e != want {
			t.Errorf("%s = %v, %d; want %d", what, j, e, want)
		}
	}
}

func same(a, b [][]byte) bool { return slices.EqualFunc(a, b, bytes.Equal) }

func tells(t *testing.T, j *journal.Journal, room int, next uint32, want ...[]byte) {
	t.Helper()
	if got := j.Batches(); !same(got, want) || j.Room() != room || j.Next() != next {
		t.Errorf("Batches = %x, Room = %d, Next = %d; want %x, %d, %d", got, j.Room(), j.Next(), want, room, next)
	}
}

// holds looks at all of a disk: what is laid down, which is what is read.
func holds(t *testing.T, d *disk.Disk, want []api.Block) {
	t.Helper()
	if d.Loose() != 0 || d.Blocks() != len(want) {
		t.Errorf("Loose = %d, Blocks = %d", d.Loose(), d.Blocks())
	}
	for n, b := range blocks(t, d) {
		if b != want[n] {
			t.Errorf("block %d is %x; want %x", n, b, want[n])
		}
	}
}

func blocks(t *testing.T, d *disk.Disk) (l []api.Block) {
	t.Helper()
	for n := range d.Blocks() {
		b, e := d.Sure(n)
		is(t, "Sure", e, api.OK)
		l = append(l, b)
	}
	return l
}

func sizes() []int { return []int{0, 1, 2, 41, 42, 43, 83, 84, 85, 125, 126, 127, 500} }

// TestExamples holds the chapter's table of examples, in its order.
func TestExamples(t *testing.T) {
	d := newDisk(t, 64)
	refused(t, "Open", api.ErrForm)(journal.Open(d))
	j, e := journal.Make(d, nil)
	is(t, "Make", e, api.OK)
	tells(t, j, 31, 2, nil)
	b := row(1, 85)
	is(t, "Append", j.Append(b), api.OK)
	tells(t, j, 28, 5, nil, b)
	is(t, "Append", j.Append(nil), api.OK)
	tells(t, j, 27, 6, nil, b, nil)
	is(t, "Append", j.Append(row(2, 28*42)), api.ErrFull)
	tells(t, j, 27, 6, nil, b, nil)
	b = row(3, 32*42)
	is(t, "Replace", j.Replace(b), api.OK)
	tells(t, j, 0, 38, b)
	is(t, "Replace", j.Replace([]byte{1}), api.OK)
	tells(t, j, 31, 39, []byte{1})
}

// TestMake looks at all blocks of disks on which something else stood.
func TestMake(t *testing.T) {
	for _, many := range []int{64, 65, 66, 67, 101} {
		for _, size := range sizes() {
			d := newDisk(t, many)
			for n := range many {
				is(t, "Write", d.Write(n, leaf(uint32(n+1), 1, 1, byte(n))), api.OK)
			}
			is(t, "Flush", d.Flush(), api.OK)
			want, steps, b := blocks(t, d), d.Steps(), row(9, size)
			j, e := journal.Make(d, b)
			is(t, "Make", e, api.OK)
			l := laid(uint32(many+1), b)
			want[many/2] = api.Block{}
			copy(want, l)
			holds(t, d, want)
			if d.Steps() != steps+3+len(l)+1 {
				t.Errorf("%d steps for %d leaves", d.Steps()-steps, len(l))
			}
			tells(t, j, many/2-len(l), uint32(many+1+len(l)), b)
			tells(t, opened(t, d), many/2-len(l), uint32(many+1+len(l)), b)
		}
	}
}

// TestMakeFull fills the first half, to its last block.
func TestMakeFull(t *testing.T) {
	for _, many := range []int{64, 65, 66} {
		d := newDisk(t, many)
		refused(t, "Make", api.ErrFull)(journal.Make(d, row(1, many/2*42+1)))
		holds(t, d, make([]api.Block, many))
		j, e := journal.Make(d, row(1, many/2*42))
		is(t, "Make", e, api.OK)
		tells(t, j, 0, uint32(many/2+1), row(1, many/2*42))
		tells(t, opened(t, d), 0, uint32(many/2+1), row(1, many/2*42))
	}
}

// TestMakeRefuses tells the errors in their order; with none of them is anything done.
func TestMakeRefuses(t *testing.T) {
	for i, c := range []struct {
		number uint32
		size   int
		e      api.Errno
	}{
		{0, api.MaxBatch + 1, api.ErrLimit}, {0, api.MaxBatch, api.ErrFull}, {0, 32*42 + 1, api.ErrFull}, {0, 32 * 42, api.OK},
		{most - 1, 0, api.OK}, {most - 1, 42, api.OK}, {most - 1, 43, api.ErrLimit}, {most - 2, 84, api.OK}, {most - 2, 85, api.ErrLimit},
		{most, 0, api.ErrLimit}, {most + 1, 0, api.ErrLimit}, {math.MaxUint32 - 1, 0, api.ErrLimit}, {math.MaxUint32, 0, api.ErrLimit}, {math.MaxUint32, 1, api.ErrLimit},
		{most - 32, 32 * 42, api.OK}, {most - 31, 32 * 42, api.ErrLimit}, {most - 33, 32*42 + 1, api.ErrFull}, {most - 32, 32*42 + 1, api.ErrLimit},
	} {
		d := newDisk(t, 64)
		write(t, d, 40, headed(0, c.number, 0, 0))
		was, steps := blocks(t, d), d.Steps()
		j, e := journal.Make(d, make([]byte, c.size))
		if e != c.e || (j == nil) != (e != api.OK) {
			t.Errorf("%d: Make = %v, %d; want %d", i, j, e, c.e)
		}
		if e != api.OK {
			holds(t, d, was)
			if d.Steps() != steps {
				t.Errorf("%d: %d steps", i, d.Steps()-steps)
			}
			continue
		}
		if next := c.number + uint32(len(laid(1, make([]byte, c.size)))) + 1; j.Next() != next || opened(t, d).Next() != next {
			t.Errorf("%d: Next = %d; want %d", i, j.Next(), next)
		}
	}
}

// TestMakeInOrder cuts the power at each step, and looks at what was written ahead of it.
func TestMakeInOrder(t *testing.T) {
	b := row(1, 100)
	l := laid(65, b)
	for at := 1; at <= 8; at++ {
		d := newDisk(t, 64)
		for n := range 64 {
			is(t, "Write", d.Write(n, leaf(uint32(n+1), 1, 0)), api.OK)
		}
		is(t, "Flush", d.Flush(), api.OK)
		want := blocks(t, d)
		is(t, "Arm", d.Arm(at), api.OK)
		j, e := journal.Make(d, b)
		if at == 8 {
			is(t, "Make", e, api.OK)
			break
		}
		refused(t, "Make", api.ErrPower)(j, e)
		loose := []int{0, 1, 2, 0, 1, 2, 3}[at-1]
		if d.Loose() != loose || !d.Dark() {
			t.Errorf("%d: Loose = %d", at, d.Loose())
		}
		is(t, "Crash", d.Crash([]int{15, 15, 15}), api.OK)
		if at > 1 {
			want[0] = api.Block{}
		}
		if at > 2 {
			want[32] = api.Block{}
		}
		copy(want, l[:max(0, at-4)])
		holds(t, d, want)
	}
}

// TestDark asks for all things in the dark, where no other error but ErrNil is told.
func TestDark(t *testing.T) {
	d, j := made(t, 64, []byte{1})
	is(t, "Arm", d.Arm(1), api.OK)
	is(t, "Flush", d.Flush(), api.ErrPower)
	steps := d.Steps()
	for _, size := range []int{0, 42 * 32, 42*32 + 1, api.MaxBatch, api.MaxBatch + 1} {
		refused(t, "Make", api.ErrPower)(journal.Make(d, make([]byte, size)))
		is(t, "Append", j.Append(make([]byte, size)), api.ErrPower)
		is(t, "Replace", j.Replace(make([]byte, size)), api.ErrPower)
	}
	refused(t, "Open", api.ErrPower)(journal.Open(d))
	refused(t, "Open", api.ErrPower)(journal.Open(d.Copy()))
	if d.Steps() != steps || d.Loose() != 0 || !d.Dark() {
		t.Errorf("Steps = %d, Loose = %d", d.Steps()-steps, d.Loose())
	}
	is(t, "Crash", d.Crash(nil), api.OK)
	tells(t, opened(t, d), 31, 2, []byte{1})
	far := newDisk(t, 64)
	write(t, far, 0, headed(most+1))
	is(t, "Arm", far.Arm(1), api.OK)
	is(t, "Flush", far.Flush(), api.ErrPower)
	refused(t, "Make", api.ErrPower)(journal.Make(far, nil))
	refused(t, "Open", api.ErrPower)(journal.Open(far))
}

// TestNone asks what no call made.
func TestNone(t *testing.T) {
	var none *disk.Disk
	for _, d := range []*disk.Disk{nil, none, {}, new(disk.Disk)} {
		refused(t, "Make", api.ErrNil)(journal.Make(d, nil))
		refused(t, "Make", api.ErrNil)(journal.Make(d, make([]byte, api.MaxBatch+1)))
		refused(t, "Open", api.ErrNil)(journal.Open(d))
	}
	for _, j := range []*journal.Journal{nil, {}, new(journal.Journal)} {
		for range 2 {
			for _, b := range [][]byte{nil, {1}, make([]byte, api.MaxBatch+1)} {
				is(t, "Append", j.Append(b), api.ErrNil)
				is(t, "Replace", j.Replace(b), api.ErrNil)
			}
			tells(t, j, 0, 0)
		}
	}
}

// TestOpenCounts lays batches by hand in the first half, with nothing in the other one.
func TestOpenCounts(t *testing.T) {
	b42, b43 := row(1, 42), row(1, 43)
	full := func(number uint32) api.Block { return leaf(number, 0, 42, b42...) }
	for i, c := range []struct {
		l    []api.Block
		used int
		want [][]byte
	}{
		{[]api.Block{leaf(1, 1, 0)}, 1, [][]byte{{}}},
		{[]api.Block{leaf(7, 1, 1, 5)}, 1, [][]byte{{5}}},
		{[]api.Block{leaf(7, 1, 1, 0)}, 1, [][]byte{{0}}},
		{[]api.Block{leaf(7, 1, 41, b42[:41]...)}, 1, [][]byte{b42[:41]}},
		{[]api.Block{leaf(7, 1, 42, b42...)}, 1, [][]byte{b42}},
		{[]api.Block{full(7), leaf(8, 1, 1, 43)}, 2, [][]byte{b43}},
		{[]api.Block{full(7), leaf(8, 1, 42, b42...)}, 2, [][]byte{append(row(1, 42), b42...)}},
		// The numbers of batches rise, by one or more, from the last one of the one ahead on.
		{[]api.Block{leaf(1, 1, 1, 1), leaf(2, 1, 1, 2), leaf(3, 1, 0)}, 3, [][]byte{{1}, {2}, {}}},
		{[]api.Block{leaf(1, 1, 1, 1), leaf(5, 1, 1, 2), leaf(900, 1, 0)}, 3, [][]byte{{1}, {2}, {}}},
		{[]api.Block{leaf(2, 1, 1, 1), leaf(2, 1, 1, 2), leaf(3, 1, 1, 3)}, 1, [][]byte{{1}}},
		{[]api.Block{leaf(2, 1, 1, 1), leaf(1, 1, 1, 2), leaf(3, 1, 1, 3)}, 1, [][]byte{{1}}},
		{[]api.Block{full(2), leaf(3, 1, 1, 43), leaf(3, 1, 1, 3)}, 2, [][]byte{b43}},
		{[]api.Block{full(2), leaf(3, 1, 1, 43), leaf(4, 1, 1, 3)}, 3, [][]byte{b43, {3}}},
		{[]api.Block{full(2), full(3), leaf(4, 1, 1, 43), leaf(4, 1, 1, 3)}, 3, [][]byte{append(row(1, 42), b43...)}},
		{[]api.Block{leaf(1, 1, 1, 1), leaf(9, 1, 1, 2), leaf(8, 1, 1, 3)}, 2, [][]byte{{1}, {2}}},
		{[]api.Block{leaf(1, 1, 1, 1), full(8), leaf(9, 1, 1, 43), leaf(9, 1, 1, 3)}, 3, [][]byte{{1}, b43}},
	} {
		t.Log(i)
		opensAs(t, c.l, c.used, c.want...)
	}
}

// opensAs opens a disk whose first half begins with these blocks.
func opensAs(t *testing.T, l []api.Block, used int, want ...[]byte) {
	t.Helper()
	d := newDisk(t, 64)
	write(t, d, 0, l...)
	next := uint32(1)
	for _, b := range l {
		next = max(next, seal.Greatest(b)+1)
	}
	tells(t, opened(t, d), 32-used, next, want...)
}

// TestOpenRefuses what is not there as a whole: at the beginning of either half there is no journal then, behind a batch nothing more counts.
func TestOpenRefuses(t *testing.T) {
	b42 := row(1, 42)
	full := func(number uint32) api.Block { return leaf(number, 0, 42, b42...) }
	for i, l := range [][]api.Block{
		{},
		{{}, leaf(2, 1, 1, 2)},
		{headed(2, 2, 2, 2), leaf(3, 1, 1, 3)},
		// Leaves whose numbers don't rise by one, or of which some are not there.
		{full(2), {}, leaf(4, 1, 0)},
		{full(2), {}, leaf(3, 1, 1, 3)},
		{full(2), leaf(4, 1, 1, 9)},
		{full(2), leaf(2, 1, 1, 9)},
		{full(3), leaf(2, 1, 1, 9)},
		{full(2), full(3), leaf(3, 1, 1, 9)},
		{full(2), full(3), leaf(5, 1, 1, 9)},
		{full(2), full(3), full(4)},
		// What is no leaf: the mark, how many, the 0s.
		{leaf(2, 2, 1, 2)},
		{leaf(2, 3, 1, 2)},
		{leaf(2, 255, 1, 2)},
		{leaf(2, 1, 43, b42...)},
		{leaf(2, 1, 44, b42...)},
		{leaf(2, 1, 255, b42...)},
		{leaf(2, 0, 43, b42...), leaf(3, 1, 1, 1)},
		{leaf(2, 2, 42, b42...), leaf(3, 1, 1, 1)},
		{leaf(2, 1, 0, 1)},
		{leaf(2, 1, 0, append(make([]byte, 41), 1)...)},
		{leaf(2, 1, 1, 1, 1)},
		{leaf(2, 1, 41, b42...)},
		{full(2), leaf(3, 1, 1, 1, 1)},
		// No leaf of a batch: one that is not full ahead of the last one, a last one with nothing.
		{leaf(2, 0, 41, b42[:41]...), leaf(3, 1, 1, 1)},
		{leaf(2, 0, 0), leaf(3, 1, 1, 1)},
		{leaf(2, 0, 0), leaf(3, 1, 0)},
		{full(2), leaf(3, 1, 0)},
		{full(2), leaf(3, 0, 0), leaf(4, 1, 1, 1)},
		{full(2), leaf(3, 0, 41, b42[:41]...), leaf(4, 1, 1, 1)},
		{full(2), leaf(3, 2, 42, b42...), leaf(4, 1, 1, 1)},
		// Blocks that are not of one piece.
		{seal.Mix(leaf(2, 1, 0), leaf(3, 1, 0), 1)},
		{seal.Mix(leaf(2, 1, 1, 1), leaf(2, 1, 1, 2), 1)},
		{full(2), seal.Mix(leaf(3, 1, 1, 1), leaf(3, 1, 1, 2), 1)},
	} {
		t.Log(i)
		for _, from := range []int{0, 32} {
			d := newDisk(t, 64)
			write(t, d, from, l...)
			refused(t, "Open", api.ErrForm)(journal.Open(d))
		}
		opensAs(t, append([]api.Block{leaf(1, 1, 1, 1)}, l...), 1, []byte{1})
	}
}

// TestOpenEnds: no batch goes on behind the end of its half, or begins there.
func TestOpenEnds(t *testing.T) {
	d := newDisk(t, 64)
	write(t, d, 0, laid(2, row(3, 32*42))...)
	write(t, d, 32, leaf(1, 1, 0))
	tells(t, opened(t, d), 0, 34, row(3, 32*42))
	// What goes on in the other half is a batch there: the end of the one that is not there as a whole.
	d = newDisk(t, 64)
	write(t, d, 0, laid(1, row(1, 34*42))...)
	tells(t, opened(t, d), 30, 35, row(1, 34*42)[32*42:])
	// The odd block is in neither half.
	long := row(1, 31*42)
	d = newDisk(t, 65)
	write(t, d, 32, laid(50, long)...)
	write(t, d, 63, leaf(81, 0, 42, long[:42]...), leaf(82, 1, 1, 9))
	tells(t, opened(t, d), 1, 83, long)
	write(t, d, 63, leaf(81, 1, 1, 9), leaf(82, 1, 1, 9))
	tells(t, opened(t, d), 0, 83, long, []byte{9})
}

// TestWhichHalf: the one whose first batch has the greater number, wherever the greatest number is.
func TestWhichHalf(t *testing.T) {
	one, two := []byte{1}, []byte{2}
	for i, c := range []struct {
		a, b []uint32
		want [][]byte
		next uint32
	}{
		{[]uint32{1}, nil, [][]byte{one}, 2},
		{nil, []uint32{1}, [][]byte{two}, 2},
		{[]uint32{1}, []uint32{2}, [][]byte{two}, 3},
		{[]uint32{2}, []uint32{1}, [][]byte{one}, 3},
		{[]uint32{2}, []uint32{2}, [][]byte{one}, 3},
		{[]uint32{2, 3, 9}, []uint32{4}, [][]byte{two}, 10},
		{[]uint32{4}, []uint32{2, 3, 9}, [][]byte{one}, 10},
		{[]uint32{4, 5}, []uint32{4, 9, 10}, [][]byte{one, one}, 11},
		{[]uint32{4}, []uint32{3, 9, 9}, [][]byte{one}, 10},
		{[]uint32{256}, []uint32{255, 256}, [][]byte{one}, 257},
		{[]uint32{most - 1}, []uint32{most}, [][]byte{two}, most + 1},
		{[]uint32{most}, []uint32{1, 2}, [][]byte{one}, most + 1},
	} {
		for _, many := range []int{64, 65, 70, 71} {
			d := newDisk(t, many)
			for k, n := range c.a {
				write(t, d, k, leaf(n, 1, 1, 1))
			}
			for k, n := range c.b {
				write(t, d, many/2+k, leaf(n, 1, 1, 2))
			}
			t.Log(i, many)
			tells(t, opened(t, d), many/2-len(c.want), c.next, c.want...)
		}
	}
	// It is the first number of a batch, not its last one.
	d := newDisk(t, 64)
	write(t, d, 0, laid(5, row(1, 200))...)
	write(t, d, 32, laid(6, two)...)
	tells(t, opened(t, d), 31, 10, two)
}

// TestNextLooksEverywhere: at each quarter of each block, also of one in neither half, laid down or not.
func TestNextLooksEverywhere(t *testing.T) {
	for _, many := range []int{64, 65} {
		for n := range many {
			for q := range 4 {
				d, _ := made(t, many, []byte{7})
				heads := [4]uint32{3, 2, 1, 3}
				heads[q] = 1000
				is(t, "Write", d.Write(n, headed(heads[:]...)), api.OK)
				if n == 0 {
					// The only batch stood there.
					refused(t, "Open", api.ErrForm)(journal.Open(d))
				} else {
					tells(t, opened(t, d), many/2-1, 1001, []byte{7})
				}
				is(t, "Flush", d.Flush(), api.OK)
				j, e := journal.Make(d, nil)
				is(t, "Make", e, api.OK)
				tells(t, j, many/2-1, 1002, nil)
				tells(t, opened(t, d), many/2-1, 1002, nil)
			}
		}
	}
}

func TestOpenLimit(t *testing.T) {
	for _, c := range []struct {
		number uint32
		e      api.Errno
	}{{most - 1, api.OK}, {most, api.OK}, {most + 1, api.ErrForm}, {most + 2, api.ErrForm}, {math.MaxUint32 - 1, api.ErrForm}, {math.MaxUint32, api.ErrForm}} {
		for q := range 4 {
			d, _ := made(t, 64, []byte{7})
			var heads [4]uint32
			heads[q] = c.number
			write(t, d, 50, headed(heads[:]...))
			if c.e != api.OK {
				refused(t, "Open", c.e)(journal.Open(d))
				continue
			}
			tells(t, opened(t, d), 31, c.number+1, []byte{7})
		}
	}
	// A journal that stands on such numbers is refused likewise.
	d := newDisk(t, 64)
	write(t, d, 0, leaf(math.MaxUint32, 1, 0))
	refused(t, "Open", api.ErrForm)(journal.Open(d))
	write(t, d, 0, leaf(most, 1, 0))
	tells(t, opened(t, d), 31, most+1, nil)
	write(t, d, 0, leaf(math.MaxUint32, 0, 42, row(1, 42)...), leaf(1, 1, 1, 9))
	refused(t, "Open", api.ErrForm)(journal.Open(d))
}

// TestOpenDoesNoWork, be there a journal or none.
func TestOpenDoesNoWork(t *testing.T) {
	d, j := made(t, 64, row(1, 100))
	is(t, "Append", j.Append(row(2, 50)), api.OK)
	is(t, "Write", d.Write(60, leaf(40, 1, 0)), api.OK)
	was, steps := blocks(t, d), d.Steps()
	for range 3 {
		tells(t, opened(t, d), 32-5, 41, row(1, 100), row(2, 50))
	}
	if d.Steps() != steps || d.Loose() != 1 || !slices.Equal(blocks(t, d), was) {
		t.Errorf("Steps = %d, Loose = %d", d.Steps()-steps, d.Loose())
	}
	d = newDisk(t, 64)
	refused(t, "Open", api.ErrForm)(journal.Open(d))
	if d.Steps() != 0 || d.Loose() != 0 {
		t.Errorf("Steps = %d, Loose = %d", d.Steps(), d.Loose())
	}
}

// TestAppend and what stands on the disk behind each, to the half's last block.
func TestAppend(t *testing.T) {
	for _, many := range []int{64, 65, 200} {
		d, j := made(t, many, []byte{1})
		want, l, next := blocks(t, d), [][]byte{{1}}, uint32(2)
		used := 1
		for i, size := range append(sizes(), many/2*42-26*42, 0, 1) {
			b := row(byte(i), size)
			leaves := laid(next, b)
			steps := d.Steps()
			e := j.Append(b)
			if used+len(leaves) > many/2 {
				is(t, "Append", e, api.ErrFull)
				leaves = nil
				if d.Steps() != steps {
					t.Errorf("%d steps", d.Steps()-steps)
				}
			} else {
				is(t, "Append", e, api.OK)
				l = append(l, b)
				if d.Steps() != steps+len(leaves)+1 {
					t.Errorf("%d steps for %d leaves", d.Steps()-steps, len(leaves))
				}
			}
			copy(want[used:], leaves)
			used += len(leaves)
			next += uint32(len(leaves))
			holds(t, d, want)
			tells(t, j, many/2-used, next, l...)
			tells(t, opened(t, d), many/2-used, next, l...)
		}
	}
}

// TestReplace goes to and fro between the halves, with an Append behind each.
func TestReplace(t *testing.T) {
	for _, many := range []int{64, 65, 99} {
		d, j := made(t, many, []byte{1})
		want, next := blocks(t, d), uint32(2)
		half := many / 2
		at := 0
		for i, size := range append(sizes(), half*42, 1, half*42, 0, half*42-42) {
			b := row(byte(i), size)
			leaves := laid(next, b)
			at = half - at
			is(t, "Replace", j.Replace(b), api.OK)
			copy(want[at:], leaves)
			next += uint32(len(leaves))
			holds(t, d, want)
			tells(t, j, half-len(leaves), next, b)
			if i%2 == 1 {
				j = opened(t, d)
				tells(t, j, half-len(leaves), next, b)
			}
			if len(leaves) == half {
				is(t, "Append", j.Append(nil), api.ErrFull)
				continue
			}
			is(t, "Append", j.Append([]byte{77}), api.OK)
			want[at+len(leaves)] = leaf(next, 1, 1, 77)
			next++
			holds(t, d, want)
			tells(t, j, half-len(leaves)-1, next, b, []byte{77})
			tells(t, opened(t, d), half-len(leaves)-1, next, b, []byte{77})
		}
	}
}

// TestRefuses tells the errors of Append and Replace, in their order; none of them changes anything.
func TestRefuses(t *testing.T) {
	for i, c := range []struct {
		number          uint32
		size            int
		append, replace api.Errno
	}{
		{10, api.MaxBatch + 1, api.ErrLimit, api.ErrLimit},
		{10, api.MaxBatch, api.ErrFull, api.ErrFull},
		{10, 32*42 + 1, api.ErrFull, api.ErrFull},
		{10, 32 * 42, api.ErrFull, api.OK},
		{10, 28*42 + 1, api.ErrFull, api.OK},
		{10, 28 * 42, api.OK, api.OK},
		{most, 0, api.ErrLimit, api.ErrLimit},
		{most, 33 * 42, api.ErrLimit, api.ErrLimit},
		{most - 1, 42, api.OK, api.OK},
		{most - 1, 43, api.ErrLimit, api.ErrLimit},
		{most - 2, 43, api.OK, api.OK},
		{most - 28, 28 * 42, api.OK, api.OK},
		{most - 28, 28*42 + 1, api.ErrLimit, api.ErrLimit},
		{most - 29, 28*42 + 1, api.ErrFull, api.OK},
		{most - 32, 32 * 42, api.ErrFull, api.OK},
		{most - 32, 32*42 + 1, api.ErrLimit, api.ErrLimit},
		{most - 33, 32*42 + 1, api.ErrFull, api.ErrFull},
		{most - 1, api.MaxBatch, api.ErrLimit, api.ErrLimit},
	} {
		for _, all := range []bool{false, true} {
			d, j := made(t, 64, []byte{1})
			is(t, "Append", j.Append(row(1, 100)), api.OK)
			write(t, d, 63, headed(c.number))
			j = opened(t, d)
			was, steps, b := blocks(t, d), d.Steps(), row(3, c.size)
			do, want, l, used := j.Append, c.append, [][]byte{{1}, row(1, 100)}, 4
			if all {
				do, want = j.Replace, c.replace
			}
			t.Log(i, all)
			is(t, "Append or Replace", do(b), want)
			next := c.number + 1
			if want != api.OK {
				holds(t, d, was)
				if d.Steps() != steps {
					t.Errorf("%d steps", d.Steps()-steps)
				}
			} else {
				if l = append(l, b); all {
					l, used = [][]byte{b}, 0
				}
				leaves := len(laid(1, b))
				used += leaves
				next += uint32(leaves)
			}
			tells(t, j, 32-used, next, l...)
			if x := opened(t, d); !same(x.Batches(), l) {
				t.Errorf("Batches = %x", x.Batches())
			}
		}
	}
}

// TestGreatDisk: the largest half holds less than the longest batch.
func TestGreatDisk(t *testing.T) {
	const half = api.MaxBlocks / 2
	d, j := made(t, api.MaxBlocks, nil)
	b := row(1, half*42)
	is(t, "Append", j.Append(b), api.ErrFull)
	is(t, "Replace", j.Replace(make([]byte, api.MaxBatch+1)), api.ErrLimit)
	is(t, "Replace", j.Replace(make([]byte, api.MaxBatch)), api.ErrFull)
	is(t, "Replace", j.Replace(b), api.OK)
	tells(t, j, 0, 2+half, b)
	tells(t, opened(t, d), 0, 2+half, b)
	is(t, "Replace", j.Replace(nil), api.OK)
	for i := range 1000 {
		is(t, "Append", j.Append([]byte{byte(i)}), api.OK)
	}
	if x := opened(t, d); !same(x.Batches(), j.Batches()) || x.Room() != half-1001 || x.Next() != 1003+half {
		t.Errorf("Room = %d, Next = %d", x.Room(), x.Next())
	}
}

func TestArgumentsStay(t *testing.T) {
	for n := range 130 {
		room := row(1, 200)
		d, j := made(t, 64, room[:n])
		is(t, "Append", j.Append(room[:n]), api.OK)
		if !bytes.Equal(room, row(1, 200)) {
			t.Fatalf("what was handed in became %x", room)
		}
		clear(room)
		b := row(1, n)
		room = row(1, 200)
		used := 2 * len(laid(1, b))
		tells(t, j, 32-used, uint32(used+1), b, b)
		is(t, "Replace", j.Replace(room[:n]), api.OK)
		if !bytes.Equal(room, row(1, 200)) {
			t.Fatalf("what was handed in became %x", room)
		}
		clear(room)
		tells(t, j, 32-used/2, uint32(used*3/2+1), b)
		tells(t, opened(t, d), 32-used/2, uint32(used*3/2+1), b)
	}
}

func TestAnswersAreNew(t *testing.T) {
	d, made := made(t, 64, row(1, 50))
	is(t, "Append", made.Append(row(2, 5)), api.OK)
	is(t, "Append", made.Append(row(3, 42)), api.OK)
	for _, j := range []*journal.Journal{made, opened(t, d)} {
		l := j.Batches()
		for i, b := range l {
			for at := range b[:cap(b)] {
				b[:cap(b)][at] = 0xee
			}
			if i+1 < len(l) && !bytes.Equal(l[i+1], row(byte(i+2), len(l[i+1]))) {
				t.Errorf("two lists share memory: %x", l[i+1])
			}
			l[i] = nil
		}
		_ = append(l[:1], []byte{9})
		tells(t, j, 32-4, 5, row(1, 50), row(2, 5), row(3, 42))
	}
}

// TestDiskIsTheCallers: the journal works on the disk that it was handed, not on one like it.
func TestDiskIsTheCallers(t *testing.T) {
	d, j := made(t, 64, []byte{1})
	c := d.Copy()
	is(t, "Append", j.Append([]byte{2}), api.OK)
	tells(t, opened(t, c), 31, 2, []byte{1})
	tells(t, opened(t, d), 30, 3, []byte{1}, []byte{2})
	is(t, "Arm", c.Arm(1), api.OK)
	is(t, "Append", j.Append([]byte{3}), api.OK)
	is(t, "Arm", d.Arm(3), api.OK)
	is(t, "Append", j.Append([]byte{4}), api.OK)
	is(t, "Append", j.Append([]byte{5}), api.ErrPower)
}

// histories are journals that stand on disks on which much else was left.
func histories(t *testing.T) []*disk.Disk {
	t.Helper()
	var l []*disk.Disk
	keep := func(d *disk.Disk) { l = append(l, d.Copy()) }
	d, j := made(t, 64, []byte{1})
	keep(d)
	is(t, "Append", j.Append(row(2, 60)), api.OK)
	keep(d)
	// Behind what counts stands what a cut left: the second leaf and the third one.
	is(t, "Arm", d.Arm(4), api.OK)
	is(t, "Append", j.Append(row(3, 120)), api.ErrPower)
	is(t, "Crash", d.Crash([]int{6, 15, 15}), api.OK)
	keep(d)
	j = opened(t, d)
	for i := range 4 {
		is(t, "Replace", j.Replace(row(byte(10+i), 100*i)), api.OK)
		is(t, "Append", j.Append([]byte{byte(20 + i)}), api.OK)
		is(t, "Append", j.Append(row(byte(30+i), 43)), api.OK)
		keep(d)
	}
	// In the other half the first leaf is as it was, and what a cut left counts behind it.
	is(t, "Arm", d.Arm(4), api.OK)
	is(t, "Replace", j.Replace(row(40, 120)), api.ErrPower)
	is(t, "Crash", d.Crash([]int{0, 15, 15}), api.OK)
	keep(d)
	j = opened(t, d)
	is(t, "Replace", j.Replace(row(50, 32*42)), api.OK)
	is(t, "Replace", j.Replace([]byte{51}), api.OK)
	keep(d)
	return l
}

// isAsAheadOrBehind opens what a cut left, and goes on with it. It tells whether all is as behind.
func isAsAheadOrBehind(t *testing.T, d *disk.Disk, ahead, behind [][]byte) bool {
	t.Helper()
	l := opened(t, d).Batches()
	if !same(l, ahead) && !same(l, behind) {
		t.Fatalf("Batches = %x; want %x or %x", l, ahead, behind)
	}
	later := d.Copy()
	for k := range byte(4) {
		j := opened(t, later)
		b := []byte{90 + k}
		if k == 2 {
			is(t, "Replace", j.Replace(b), api.OK)
			l = nil
		} else {
			is(t, "Append", j.Append(b), api.OK)
		}
		l = append(l, b)
		if got := opened(t, later).Batches(); !same(got, l) || !same(j.Batches(), l) {
			t.Fatalf("later: Batches = %x; want %x", got, l)
		}
	}
	return same(opened(t, d).Batches(), behind)
}

// TestCuts cuts the power at each step of Append and Replace, with all quarters that may be there.
func TestCuts(t *testing.T) {
	for _, was := range histories(t) {
		for _, all := range []bool{false, true} {
			for _, size := range []int{0, 42, 43, 84} {
				for at := 1; at <= len(laid(1, make([]byte, size)))+2; at++ {
					cutOnce(t, was, all, row(60, size), at)
					if t.Failed() {
						t.Fatalf("%t, %d bytes, cut at %d", all, size, at)
					}
				}
			}
		}
	}
}

func cutOnce(t *testing.T, was *disk.Disk, all bool, b []byte, at int) {
	t.Helper()
	d := was.Copy()
	j := opened(t, d)
	ahead := j.Batches()
	behind := append(j.Batches(), b)
	do := j.Append
	if all {
		do, behind = j.Replace, [][]byte{b}
	}
	is(t, "Arm", d.Arm(at), api.OK)
	e := do(b)
	writes := len(laid(1, b))
	if at > writes+1 {
		is(t, "Append or Replace", e, api.OK)
		is(t, "Crash", d.Crash(nil), api.OK)
		if !isAsAheadOrBehind(t, d, ahead, behind) {
			t.Errorf("Batches = %x; want %x", opened(t, d).Batches(), behind)
		}
		return
	}
	is(t, "Append or Replace", e, api.ErrPower)
	loose := d.Loose()
	if loose != at-1 {
		t.Errorf("Loose = %d; want %d", loose, at-1)
	}
	for bits := range 1 << (4 * loose) {
		x := d.Copy()
		is(t, "Crash", x.Crash([]int{bits, bits >> 4}), api.OK)
		done := isAsAheadOrBehind(t, x, ahead, behind)
		// All quarters of all leaves are the batch; without a leaf there is none.
		if full := loose == writes && bits == 1<<(4*loose)-1; full && !done || done && loose < writes {
			t.Fatalf("%x of %d writes: done is %t", bits, loose, done)
		}
	}
}

// TestManyCuts does many things by turns, from a short rule of numbers, with a cut in many of them; each batch is another one, so that one that was left is told from one that counts.
func TestManyCuts(t *testing.T) {
	seed := uint64(7)
	pick := func(n int) int {
		seed = seed*6364136223846793005 + 1442695040888963407
		return int(seed>>33) % n
	}
	many := 0
	batch := func() []byte {
		many++
		size := []int{0, 4, 42, 43, 84, 100, 130, 300}[pick(8)]
		b := make([]byte, size)
		for at := 0; at+4 <= size; at += 4 {
			binary.BigEndian.PutUint32(b[at:], uint32(many))
		}
		return b
	}
	for turn := range 30 {
		b := batch()
		d, j := made(t, 64+turn%2, b)
		l := [][]byte{b}
		for range 120 {
			b := batch()
			do, behind := j.Append, append(slices.Clone(l), b)
			if pick(5) == 0 {
				do, behind = j.Replace, [][]byte{b}
			}
			if pick(2) == 0 {
				is(t, "Arm", d.Arm(1+pick(6)), api.OK)
			}
			e := do(b)
			switch e {
			case api.OK:
				l = behind
			case api.ErrFull:
			case api.ErrPower:
				picks := make([]int, 8)
				for i := range picks {
					picks[i] = []int{15, 0, 15, pick(16)}[pick(4)]
				}
				is(t, "Crash", d.Crash(picks), api.OK)
				j = opened(t, d)
				if same(j.Batches(), behind) {
					l = behind
				}
			default:
				t.Fatalf("Append or Replace: %d", e)
			}
			if e == api.OK {
				is(t, "Crash", d.Crash([]int{5, 6, 7}), api.OK)
			}
			next := uint32(0)
			for _, k := range blocks(t, d) {
				next = max(next, seal.Greatest(k)+1)
			}
			x := opened(t, d)
			if !same(x.Batches(), l) || !same(j.Batches(), l) || x.Room() != j.Room() || x.Next() != next || j.Next() != next {
				t.Fatalf("Batches = %x, Next = %d; want %x, %d", x.Batches(), x.Next(), l, next)
			}
		}
	}
}
