package disk_test

import (
	"math"
	"slices"
	"testing"

	"wharfage/api"
	"wharfage/disk"
)

// full is a block of one byte.
func full(c byte) (b api.Block) {
	for i := range b {
		b[i] = c
	}
	return b
}

// mixed is a block whose quarters are of these bytes.
func mixed(q ...byte) (b api.Block) {
	for i := range b {
		b[i] = q[i/16]
	}
	return b
}

// unlike is a block whose bytes are all unlike.
func unlike(first byte) (b api.Block) {
	for i := range b {
		b[i] = first + byte(i)
	}
	return b
}

func made(t *testing.T, blocks int) *disk.Disk {
	t.Helper()
	d, e := disk.New(blocks)
	if e != api.OK || d == nil {
		t.Fatalf("New(%d): %d", blocks, e)
	}
	return d
}

func is(t *testing.T, what string, got, want api.Errno) {
	t.Helper()
	if got != want {
		t.Errorf("%s: %d; want %d", what, got, want)
	}
}

func reads(t *testing.T, d *disk.Disk, n int, want api.Block) {
	t.Helper()
	if b, e := d.Read(n); b != want || e != api.OK {
		t.Errorf("Read(%d) = %x, %d; want %x", n, b, e, want)
	}
}

func isSure(t *testing.T, d *disk.Disk, n int, want api.Block) {
	t.Helper()
	if b, e := d.Sure(n); b != want || e != api.OK {
		t.Errorf("Sure(%d) = %x, %d; want %x", n, b, e, want)
	}
}

func counts(t *testing.T, d *disk.Disk, steps, loose int, dark bool) {
	t.Helper()
	if d.Steps() != steps || d.Loose() != loose || d.Dark() != dark {
		t.Errorf("steps %d, loose %d, dark %t; want %d, %d, %t", d.Steps(), d.Loose(), d.Dark(), steps, loose, dark)
	}
}

// TestExamples holds the chapter's table of examples, in its order.
func TestExamples(t *testing.T) {
	if d, e := disk.New(63); d != nil || e != api.ErrArg {
		t.Errorf("New(63): %d", e)
	}
	d := made(t, 64)
	is(t, "Write(64)", d.Write(64, full(11)), api.ErrArg)
	is(t, "Arm(2)", d.Arm(2), api.OK)
	is(t, "Write(0)", d.Write(0, full(11)), api.OK)
	is(t, "Flush", d.Flush(), api.ErrPower)
	counts(t, d, 1, 1, true)
	if b, e := d.Read(0); b != (api.Block{}) || e != api.ErrPower {
		t.Errorf("Read(0) = %x, %d", b, e)
	}
	is(t, "Crash(9)", d.Crash([]int{9}), api.OK)
	reads(t, d, 0, mixed(11, 0, 0, 11))
}

func TestNew(t *testing.T) {
	for _, n := range []int{math.MinInt, -64, -1, 0, 1, 63, api.MaxBlocks + 1, math.MaxInt} {
		if d, e := disk.New(n); d != nil || e != api.ErrArg {
			t.Errorf("New(%d) = %v, %d", n, d, e)
		}
	}
	for _, n := range []int{64, 65, 1000, api.MaxBlocks - 1, api.MaxBlocks} {
		d := made(t, n)
		if d.Blocks() != n {
			t.Errorf("Blocks = %d; want %d", d.Blocks(), n)
		}
		counts(t, d, 0, 0, false)
		for i := range n {
			reads(t, d, i, api.Block{})
			isSure(t, d, i, api.Block{})
		}
	}
}

func TestBlocksThatAreNone(t *testing.T) {
	for _, blocks := range []int{64, 65, api.MaxBlocks} {
		d := made(t, blocks)
		for _, n := range []int{math.MinInt, -1, blocks, blocks + 1, math.MaxInt} {
			if b, e := d.Read(n); b != (api.Block{}) || e != api.ErrArg {
				t.Errorf("Read(%d) = %x, %d", n, b, e)
			}
			if b, e := d.Sure(n); b != (api.Block{}) || e != api.ErrArg {
				t.Errorf("Sure(%d) = %x, %d", n, b, e)
			}
			is(t, "Write of none", d.Write(n, full(1)), api.ErrArg)
		}
		counts(t, d, 0, 0, false)
		for _, n := range []int{0, blocks - 1} {
			is(t, "Write", d.Write(n, full(1)), api.OK)
			reads(t, d, n, full(1))
		}
		counts(t, d, 2, 2, false)
	}
}

// TestYoungest reads ahead of a Flush, behind it, and over what was laid down.
func TestYoungest(t *testing.T) {
	d := made(t, 64)
	for i, c := range []byte{1, 2, 0, 3} {
		is(t, "Write", d.Write(5, full(c)), api.OK)
		reads(t, d, 5, full(c))
		isSure(t, d, 5, api.Block{})
		counts(t, d, i+1, i+1, false)
	}
	reads(t, d, 4, api.Block{})
	is(t, "Flush", d.Flush(), api.OK)
	counts(t, d, 5, 0, false)
	reads(t, d, 5, full(3))
	isSure(t, d, 5, full(3))
	// A block that is written back to 0s is of 0s, not as it was laid down.
	is(t, "Write", d.Write(5, api.Block{}), api.OK)
	reads(t, d, 5, api.Block{})
	isSure(t, d, 5, full(3))
	is(t, "Flush", d.Flush(), api.OK)
	reads(t, d, 5, api.Block{})
	isSure(t, d, 5, api.Block{})
	counts(t, d, 7, 0, false)
}

func TestFlushOfNothingIsWork(t *testing.T) {
	d := made(t, 64)
	for i := range 3 {
		is(t, "Flush", d.Flush(), api.OK)
		counts(t, d, i+1, 0, false)
	}
}

// TestArmed tries writes and flushes by turns: behind n tries the power is gone, and n - 1 were work.
func TestArmed(t *testing.T) {
	for n := range 12 {
		d := made(t, 64)
		is(t, "Write", d.Write(9, full(9)), api.OK)
		is(t, "Arm", d.Arm(n), api.OK)
		counts(t, d, 1, 1, false)
		for i := range 20 {
			want := api.OK
			if n > 0 && i >= n-1 {
				want = api.ErrPower
			}
			if i%2 == 0 {
				is(t, "Write", d.Write(i, full(byte(i))), want)
			} else {
				is(t, "Flush", d.Flush(), want)
			}
			if d.Dark() != (want != api.OK) {
				t.Errorf("Arm(%d): behind %d tries dark is %t", n, i+1, d.Dark())
			}
		}
		work := 20
		if n > 0 {
			work = n - 1
		}
		if d.Steps() != 1+work {
			t.Errorf("Arm(%d): %d were work", n, d.Steps()-1)
		}
	}
}

// TestWorkThatThePowerLeaves: it is not done, be it a Write or a Flush.
func TestWorkThatThePowerLeaves(t *testing.T) {
	d := made(t, 64)
	is(t, "Write", d.Write(1, full(1)), api.OK)
	flushed := d.Copy()
	is(t, "Arm(1)", d.Arm(1), api.OK)
	is(t, "Write", d.Write(2, full(2)), api.ErrPower)
	counts(t, d, 1, 1, true)
	is(t, "Crash", d.Crash([]int{15, 15}), api.OK)
	reads(t, d, 1, full(1))
	reads(t, d, 2, api.Block{})

	is(t, "Arm(1)", flushed.Arm(1), api.OK)
	is(t, "Flush", flushed.Flush(), api.ErrPower)
	counts(t, flushed, 1, 1, true)
	isSure(t, flushed, 1, api.Block{})
	is(t, "Crash", flushed.Crash(nil), api.OK)
	reads(t, flushed, 1, api.Block{})
}

func TestArm(t *testing.T) {
	d := made(t, 64)
	for _, n := range []int{-1, math.MinInt} {
		is(t, "Arm below 0", d.Arm(n), api.ErrArg)
	}
	// What is refused leaves what was armed as it was.
	is(t, "Arm(2)", d.Arm(2), api.OK)
	is(t, "Arm(-1)", d.Arm(-1), api.ErrArg)
	is(t, "Write", d.Write(0, full(1)), api.OK)
	is(t, "Write", d.Write(0, full(2)), api.ErrPower)

	for _, c := range []struct {
		arms []int
		work int
	}{{[]int{1, 3}, 2}, {[]int{3, 1}, 0}, {[]int{5, 2, 4}, 3}, {[]int{1, 0, 2}, 1}} {
		d := made(t, 64)
		for _, n := range c.arms {
			is(t, "Arm", d.Arm(n), api.OK)
		}
		for range c.work {
			is(t, "Flush", d.Flush(), api.OK)
		}
		is(t, "Flush", d.Flush(), api.ErrPower)
	}
	for _, n := range []int{0, 1 << 20, math.MaxInt} {
		d := made(t, 64)
		is(t, "Arm(1)", d.Arm(1), api.OK)
		is(t, "Arm", d.Arm(n), api.OK)
		for range 1000 {
			is(t, "Flush", d.Flush(), api.OK)
		}
	}
}

// TestArmCountsFromThenOn, not from the disk's beginning, nor from an earlier Arm.
func TestArmCountsFromThenOn(t *testing.T) {
	d := made(t, 64)
	for range 5 {
		is(t, "Flush", d.Flush(), api.OK)
	}
	is(t, "Arm(2)", d.Arm(2), api.OK)
	is(t, "Flush", d.Flush(), api.OK)
	is(t, "Arm(2)", d.Arm(2), api.OK)
	is(t, "Flush", d.Flush(), api.OK)
	is(t, "Flush", d.Flush(), api.ErrPower)
	counts(t, d, 7, 0, true)
}

// TestWhatIsNoWork is not counted, neither by Steps nor by what is armed.
func TestWhatIsNoWork(t *testing.T) {
	d := made(t, 64)
	is(t, "Arm(1)", d.Arm(1), api.OK)
	is(t, "Write(64)", d.Write(64, full(1)), api.ErrArg)
	is(t, "Write(-1)", d.Write(-1, full(1)), api.ErrArg)
	reads(t, d, 0, api.Block{})
	isSure(t, d, 0, api.Block{})
	d.Blocks()
	d.Copy()
	counts(t, d, 0, 0, false)
	is(t, "Write", d.Write(0, full(1)), api.ErrPower)
	counts(t, d, 0, 0, true)
}

func TestDark(t *testing.T) {
	d := made(t, 65)
	is(t, "Write", d.Write(1, full(1)), api.OK)
	is(t, "Flush", d.Flush(), api.OK)
	is(t, "Write", d.Write(1, full(2)), api.OK)
	is(t, "Arm", d.Arm(1), api.OK)
	is(t, "Flush", d.Flush(), api.ErrPower)
	// ErrPower is ahead of ErrArg.
	for _, n := range []int{-1, 0, 1, 64, 65} {
		if b, e := d.Read(n); b != (api.Block{}) || e != api.ErrPower {
			t.Errorf("Read(%d) = %x, %d", n, b, e)
		}
		is(t, "Write", d.Write(n, full(3)), api.ErrPower)
		is(t, "Arm", d.Arm(n), api.ErrPower)
	}
	is(t, "Flush", d.Flush(), api.ErrPower)
	counts(t, d, 3, 1, true)
	if d.Blocks() != 65 {
		t.Errorf("Blocks = %d", d.Blocks())
	}
	isSure(t, d, 0, api.Block{})
	isSure(t, d, 1, full(1))
	for _, n := range []int{-1, 65} {
		if b, e := d.Sure(n); b != (api.Block{}) || e != api.ErrArg {
			t.Errorf("Sure(%d) = %x, %d", n, b, e)
		}
	}
	is(t, "Crash", d.Crash([]int{1}), api.OK)
	counts(t, d, 3, 0, false)
	reads(t, d, 1, mixed(2, 1, 1, 1))
}

// TestCrashDisarms a disk whose power was there, and one whose power was gone.
func TestCrashDisarms(t *testing.T) {
	d := made(t, 64)
	is(t, "Arm", d.Arm(2), api.OK)
	is(t, "Write", d.Write(3, full(3)), api.OK)
	is(t, "Crash", d.Crash([]int{2}), api.OK)
	reads(t, d, 3, mixed(0, 3, 0, 0))
	isSure(t, d, 3, mixed(0, 3, 0, 0))
	for range 9 {
		is(t, "Flush", d.Flush(), api.OK)
	}
	counts(t, d, 10, 0, false)
	is(t, "Arm", d.Arm(1), api.OK)
	is(t, "Flush", d.Flush(), api.ErrPower)
	is(t, "Crash", d.Crash(nil), api.OK)
	for range 9 {
		is(t, "Flush", d.Flush(), api.OK)
	}
	counts(t, d, 19, 0, false)
	is(t, "Arm", d.Arm(2), api.OK)
	is(t, "Flush", d.Flush(), api.OK)
	is(t, "Flush", d.Flush(), api.ErrPower)
}

// TestEachPick goes through the lowest four bits, under higher ones of all kinds.
func TestEachPick(t *testing.T) {
	was, b := unlike(1), unlike(101)
	for bits := range 16 {
		want := was
		for i := range want {
			if bits&(1<<(i/16)) != 0 {
				want[i] = b[i]
			}
		}
		for _, high := range []int{0, 16, 32, 48, 1 << 40, math.MinInt, -16, -32, math.MaxInt &^ 15} {
			d := made(t, 64)
			is(t, "Write", d.Write(63, was), api.OK)
			is(t, "Flush", d.Flush(), api.OK)
			is(t, "Write", d.Write(63, b), api.OK)
			is(t, "Crash", d.Crash([]int{high | bits}), api.OK)
			reads(t, d, 63, want)
			isSure(t, d, 63, want)
			reads(t, d, 62, api.Block{})
		}
	}
}

// TestCrashEldestFirst: the younger write is laid over the elder one, quarter by quarter.
func TestCrashEldestFirst(t *testing.T) {
	for _, c := range []struct {
		picks []int
		want  api.Block
	}{
		{nil, full(9)},
		{[]int{15}, full(1)},
		{[]int{0, 15}, full(2)},
		{[]int{15, 15, 15}, full(3)},
		{[]int{15, 15, 0}, full(2)},
		{[]int{3, 6, 12}, mixed(1, 2, 3, 3)},
		{[]int{12, 6, 3}, mixed(3, 3, 2, 1)},
		{[]int{1, 2, 4}, mixed(1, 2, 3, 9)},
		{[]int{0, 0, 0, 15}, full(9)},
		{[]int{8, 0, 1, 15, 15}, mixed(3, 9, 9, 1)},
	} {
		d := made(t, 64)
		is(t, "Write", d.Write(7, full(9)), api.OK)
		is(t, "Flush", d.Flush(), api.OK)
		for i := range 3 {
			is(t, "Write", d.Write(7, full(byte(i+1))), api.OK)
		}
		is(t, "Crash", d.Crash(c.picks), api.OK)
		reads(t, d, 7, c.want)
		counts(t, d, 5, 0, false)
	}
}

// TestFlushEmptiesTheQueue: what was laid down takes no pick of a later Crash, nor does what one forgot.
func TestFlushEmptiesTheQueue(t *testing.T) {
	d := made(t, 64)
	is(t, "Write", d.Write(1, full(1)), api.OK)
	is(t, "Flush", d.Flush(), api.OK)
	is(t, "Write", d.Write(2, full(2)), api.OK)
	is(t, "Crash", d.Crash([]int{0, 15}), api.OK)
	reads(t, d, 1, full(1))
	reads(t, d, 2, api.Block{})
	is(t, "Write", d.Write(3, full(3)), api.OK)
	is(t, "Crash", d.Crash([]int{15, 15}), api.OK)
	reads(t, d, 2, api.Block{})
	reads(t, d, 3, full(3))
	is(t, "Crash", d.Crash([]int{15}), api.OK)
	is(t, "Flush", d.Flush(), api.OK)
	reads(t, d, 2, api.Block{})
	reads(t, d, 3, full(3))
}

// TestNone asks a disk that is none, and one that New did not make.
func TestNone(t *testing.T) {
	var none *disk.Disk
	for _, d := range []*disk.Disk{none, {}, new(disk.Disk)} {
		for range 2 {
			for _, n := range []int{-1, 0, 64} {
				if b, e := d.Read(n); b != (api.Block{}) || e != api.ErrNil {
					t.Errorf("Read(%d) = %x, %d", n, b, e)
				}
				if b, e := d.Sure(n); b != (api.Block{}) || e != api.ErrNil {
					t.Errorf("Sure(%d) = %x, %d", n, b, e)
				}
				is(t, "Write", d.Write(n, full(1)), api.ErrNil)
				is(t, "Arm", d.Arm(n), api.ErrNil)
			}
			is(t, "Flush", d.Flush(), api.ErrNil)
			is(t, "Crash", d.Crash([]int{15}), api.ErrNil)
			counts(t, d, 0, 0, false)
			if d.Blocks() != 0 || d.Copy() != nil {
				t.Errorf("Blocks = %d, Copy = %v", d.Blocks(), d.Copy())
			}
		}
	}
}

func TestCopyIsTheSame(t *testing.T) {
	d := made(t, 70)
	is(t, "Write", d.Write(69, full(1)), api.OK)
	is(t, "Flush", d.Flush(), api.OK)
	is(t, "Write", d.Write(69, full(2)), api.OK)
	is(t, "Write", d.Write(0, full(3)), api.OK)
	is(t, "Arm", d.Arm(2), api.OK)
	for _, x := range []*disk.Disk{d.Copy(), d.Copy().Copy(), d} {
		if x.Blocks() != 70 {
			t.Errorf("Blocks = %d", x.Blocks())
		}
		counts(t, x, 4, 2, false)
		reads(t, x, 69, full(2))
		isSure(t, x, 69, full(1))
		is(t, "Write", x.Write(0, full(4)), api.OK)
		is(t, "Write", x.Write(0, full(5)), api.ErrPower)
		counts(t, x, 5, 3, true)
		dark := x.Copy()
		counts(t, dark, 5, 3, true)
		is(t, "Flush", dark.Flush(), api.ErrPower)
		is(t, "Crash", dark.Crash([]int{1, 2, 4}), api.OK)
		reads(t, dark, 69, mixed(2, 1, 1, 1))
		reads(t, dark, 0, mixed(0, 3, 4, 0))
		counts(t, x, 5, 3, true)
	}
}

// TestCopyIsAnother: neither tells what was done to the other one.
func TestCopyIsAnother(t *testing.T) {
	for turn := range 2 {
		d := made(t, 64)
		is(t, "Write", d.Write(1, full(1)), api.OK)
		is(t, "Flush", d.Flush(), api.OK)
		is(t, "Write", d.Write(2, full(2)), api.OK)
		is(t, "Write", d.Write(3, full(3)), api.OK)
		is(t, "Write", d.Write(4, full(4)), api.OK)
		x := d.Copy()
		if turn == 1 {
			d, x = x, d
		}
		is(t, "Write", x.Write(1, full(11)), api.OK)
		is(t, "Write", x.Write(5, full(15)), api.OK)
		is(t, "Write", d.Write(6, full(6)), api.OK)
		reads(t, d, 1, full(1))
		reads(t, d, 5, api.Block{})
		reads(t, x, 6, api.Block{})
		counts(t, d, 6, 4, false)
		counts(t, x, 7, 5, false)
		is(t, "Flush", x.Flush(), api.OK)
		isSure(t, d, 1, full(1))
		isSure(t, d, 2, api.Block{})
		is(t, "Arm", x.Arm(1), api.OK)
		is(t, "Flush", x.Flush(), api.ErrPower)
		is(t, "Crash", d.Crash([]int{1, 2, 4, 8}), api.OK)
		counts(t, d, 6, 0, false)
		counts(t, x, 8, 0, true)
		for n, c := range map[int][]byte{2: {2, 0, 0, 0}, 3: {0, 3, 0, 0}, 4: {0, 0, 4, 0}, 6: {0, 0, 0, 6}} {
			reads(t, d, n, mixed(c...))
		}
		isSure(t, x, 1, full(11))
		isSure(t, x, 2, full(2))
		isSure(t, x, 5, full(15))
		isSure(t, x, 6, api.Block{})
	}
}

// TestCopyHasAQueueOfItsOwn, of whatever length, the room behind its end too.
func TestCopyHasAQueueOfItsOwn(t *testing.T) {
	for waiting := range 20 {
		d := made(t, 64)
		for n := range waiting {
			is(t, "Write", d.Write(n, full(9)), api.OK)
		}
		l := []*disk.Disk{d, d.Copy(), d.Copy()}
		for i, x := range l {
			is(t, "Write", x.Write(40+i, full(byte(i+1))), api.OK)
		}
		picks := slices.Repeat([]int{15}, waiting+1)
		for i, x := range l {
			is(t, "Crash", x.Crash(picks), api.OK)
			for j := range l {
				want := api.Block{}
				if i == j {
					want = full(byte(i + 1))
				}
				reads(t, x, 40+j, want)
			}
		}
	}
}

func TestArgumentsStay(t *testing.T) {
	room := []int{-1, 3, 15, 255}
	was := slices.Clone(room)
	d := made(t, 64)
	b := unlike(1)
	for n := range 3 {
		is(t, "Write", d.Write(n, b), api.OK)
	}
	b[0] = 99
	reads(t, d, 0, unlike(1))
	// What stands behind the end is no pick.
	is(t, "Crash", d.Crash(room[:1]), api.OK)
	reads(t, d, 0, unlike(1))
	reads(t, d, 1, api.Block{})
	got, _ := d.Read(0)
	got[0] = 77
	reads(t, d, 0, unlike(1))
	is(t, "Write", d.Write(1, full(1)), api.OK)
	is(t, "Crash", d.Crash(room[1:2]), api.OK)
	room[1] = 0
	reads(t, d, 1, mixed(1, 1, 0, 0))
	room[1] = was[1]
	if !slices.Equal(room, was) {
		t.Errorf("picks that were handed in became %v", room)
	}
}

// model is a disk as the chapter says it, with all its writes in a list.
type model struct {
	laid  [64]api.Block
	queue []struct {
		n int
		b api.Block
	}
	steps, left int
	dark        bool
}

func (m *model) read(n int) api.Block {
	for _, w := range slices.Backward(m.queue) {
		if w.n == n {
			return w.b
		}
	}
	return m.laid[n]
}

// work does f, if the power doesn't go there.
func (m *model) work(f func()) api.Errno {
	if m.dark {
		return api.ErrPower
	}
	if m.left == 1 {
		m.left, m.dark = 0, true
		return api.ErrPower
	}
	m.left = max(0, m.left-1)
	m.steps++
	f()
	return api.OK
}

func (m *model) write(n int, b api.Block) api.Errno {
	return m.work(func() {
		m.queue = append(m.queue, struct {
			n int
			b api.Block
		}{n, b})
	})
}

func (m *model) lay(pick func(i int) int) {
	for i, w := range m.queue {
		for at := range w.b {
			if pick(i)&(1<<(at/16)) != 0 {
				m.laid[w.n][at] = w.b[at]
			}
		}
	}
	m.queue = nil
}

func (m *model) crash(picks []int) {
	m.lay(func(i int) int {
		if i < len(picks) {
			return picks[i]
		}
		return 0
	})
	m.left, m.dark = 0, false
}

func same(t *testing.T, d *disk.Disk, m *model) {
	t.Helper()
	counts(t, d, m.steps, len(m.queue), m.dark)
	for n := range m.laid {
		isSure(t, d, n, m.laid[n])
		if !m.dark {
			reads(t, d, n, m.read(n))
		}
	}
}

// TestAgainstModel does many things by turns, from a short rule of numbers, and looks at all of the disk behind each.
func TestAgainstModel(t *testing.T) {
	seed := uint64(1)
	next := func(n int) int {
		seed = seed*6364136223846793005 + 1442695040888963407
		return int(seed>>33) % n
	}
	for range 40 {
		d, m := made(t, 64), &model{}
		for range 150 {
			switch next(12) {
			default:
				// Few blocks, so that many writes are about one.
				n, b := next(6), unlike(byte(next(256)))
				is(t, "Write", d.Write(n, b), m.write(n, b))
			case 0:
				is(t, "Flush", d.Flush(), m.work(func() { m.lay(func(int) int { return 15 }) }))
			case 1:
				n, want := next(9), api.ErrPower
				if !m.dark {
					m.left, want = n, api.OK
				}
				is(t, "Arm", d.Arm(n), want)
			case 2:
				picks := make([]int, next(8))
				for i := range picks {
					picks[i] = next(64) - 32
				}
				is(t, "Crash", d.Crash(picks), api.OK)
				m.crash(picks)
			case 3:
				d = d.Copy()
			}
			same(t, d, m)
		}
		if t.Failed() {
			return
		}
	}
}

// TestAllOrNone: with all bits each block is as it was read, without any as it was laid down.
func TestAllOrNone(t *testing.T) {
	d := made(t, 64)
	for i := range 200 {
		is(t, "Write", d.Write(i*7%64, unlike(byte(i))), api.OK)
		if i == 90 {
			is(t, "Flush", d.Flush(), api.OK)
		}
	}
	all, none := d.Copy(), d.Copy()
	picks := make([]int, d.Loose())
	is(t, "Crash", none.Crash(picks), api.OK)
	for i := range picks {
		picks[i] = 15
	}
	is(t, "Crash", all.Crash(picks), api.OK)
	for n := range 64 {
		b, _ := d.Read(n)
		reads(t, all, n, b)
		isSure(t, all, n, b)
		b, _ = d.Sure(n)
		reads(t, none, n, b)
		isSure(t, none, n, b)
	}
}

// TestManyWait reads a queue of many writes, which a way through all of them at each read would not end in time.
func TestManyWait(t *testing.T) {
	d := made(t, api.MaxBlocks)
	const rounds = 16
	for round := range rounds {
		for n := range api.MaxBlocks - 1 {
			is(t, "Write", d.Write(n, full(byte(round))), api.OK)
			reads(t, d, n, full(byte(round)))
			reads(t, d, api.MaxBlocks-1, api.Block{})
		}
		if t.Failed() {
			return
		}
	}
	const many = rounds * (api.MaxBlocks - 1)
	counts(t, d, many, many, false)
	is(t, "Flush", d.Flush(), api.OK)
	counts(t, d, many+1, 0, false)
	isSure(t, d, api.MaxBlocks-2, full(rounds-1))
}
