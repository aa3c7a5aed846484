package num_test

import (
	"bytes"
	"cmp"
	"math"
	"testing"

	"wharfage/api"
	"wharfage/num"
)

func sizes() []int { return []int{1, 2, 4, 8} }

func noSizes() []int {
	return []int{0, 3, 5, 6, 7, 9, 12, 16, 32, 64, 256, -1, -2, -4, -8, math.MaxInt/4 + 9, math.MaxInt, math.MinInt}
}

// most is the greatest number of a size.
func most(size int) uint64 { return math.MaxUint64 >> (64 - 8*size) }

// numbers are those around each power of two, and some whose bytes are all unlike.
func numbers() []uint64 {
	l := []uint64{0x0102030405060708, 0xf0e1d2c3b4a59687, 0x01020304, 0xfedc, 0xa5, 0x100, 0x10000000000}
	for i := range 64 {
		p := uint64(1) << i
		l = append(l, p-1, p, p+1)
	}
	return append(l, math.MaxUint64)
}

// TestExamples holds the chapter's table of examples, in its order.
func TestExamples(t *testing.T) {
	if b, e := num.Put(258, 2); !bytes.Equal(b, []byte{1, 2}) || e != api.OK {
		t.Errorf("Put(258, 2) = %x, %d", b, e)
	}
	if b, e := num.Put(256, 1); len(b) != 0 || e != api.ErrArg {
		t.Errorf("Put(256, 1) = %x, %d", b, e)
	}
	if n, e := num.Get([]byte{1, 2}, 0, 2); n != 258 || e != api.OK {
		t.Errorf("Get(01 02, 0, 2) = %d, %d", n, e)
	}
	if n, e := num.Get([]byte{1}, 0, 2); n != 0 || e != api.ErrShort {
		t.Errorf("Get(01, 0, 2) = %d, %d", n, e)
	}
	if p, q := num.Pad(5), num.Pad(8); p != 3 || q != 0 {
		t.Errorf("Pad(5), Pad(8) = %d, %d", p, q)
	}
	if e := num.Zero([]byte{0, 0, 1}, 0, 2); e != api.OK {
		t.Errorf("Zero(0 0 1, 0, 2) = %d", e)
	}
	if e := num.Zero([]byte{0, 0, 1}, 1, 2); e != api.ErrForm {
		t.Errorf("Zero(0 0 1, 1, 2) = %d", e)
	}
	if n, ok := num.Add(math.MaxUint64, 1); n != 0 || ok {
		t.Errorf("Add(2^64 - 1, 1) = %d, %t", n, ok)
	}
}

func TestPut(t *testing.T) {
	for _, c := range []struct {
		n    uint64
		size int
		want []byte
	}{
		{258, 2, []byte{1, 2}},
		{0, 1, []byte{0}},
		{0, 2, []byte{0, 0}},
		{0, 4, []byte{0, 0, 0, 0}},
		{0, 8, []byte{0, 0, 0, 0, 0, 0, 0, 0}},
		{0x7f, 1, []byte{0x7f}},
		{0xff, 1, []byte{0xff}},
		{0xff, 2, []byte{0, 0xff}},
		{0xfedc, 2, []byte{0xfe, 0xdc}},
		{0xfedc, 4, []byte{0, 0, 0xfe, 0xdc}},
		{0x01020304, 4, []byte{1, 2, 3, 4}},
		{0x80000001, 4, []byte{0x80, 0, 0, 1}},
		{0x80000001, 8, []byte{0, 0, 0, 0, 0x80, 0, 0, 1}},
		{0x0102030405060708, 8, []byte{1, 2, 3, 4, 5, 6, 7, 8}},
		{0xffff, 2, []byte{255, 255}},
		{0xffffffff, 4, []byte{255, 255, 255, 255}},
		{math.MaxUint64, 8, bytes.Repeat([]byte{255}, 8)},
	} {
		if b, e := num.Put(c.n, c.size); !bytes.Equal(b, c.want) || e != api.OK {
			t.Errorf("Put(%d, %d) = %x, %d; want %x", c.n, c.size, b, e, c.want)
		}
	}
}

func TestPutRefusesWhatIsNoSize(t *testing.T) {
	for _, size := range noSizes() {
		for _, n := range []uint64{0, 1, 255, 256, math.MaxUint64} {
			if b, e := num.Put(n, size); len(b) != 0 || e != api.ErrArg {
				t.Errorf("Put(%d, %d) = %x, %d; want ErrArg", n, size, b, e)
			}
		}
	}
}

func TestPutRefusesWhatIsTooGreat(t *testing.T) {
	for _, size := range []int{1, 2, 4} {
		first := most(size) + 1
		for _, n := range []uint64{first, first + 1, 2 * first, 256 * first, 1 << 63, math.MaxUint64} {
			if b, e := num.Put(n, size); len(b) != 0 || e != api.ErrArg {
				t.Errorf("Put(%d, %d) = %x, %d; want ErrArg", n, size, b, e)
			}
		}
	}
}

func TestPutAnswersNewMemory(t *testing.T) {
	first, _ := num.Put(0x01020304, 4)
	second, _ := num.Put(0x01020304, 4)
	clear(first)
	third, _ := num.Put(0x01020304, 4)
	for _, b := range [][]byte{second, third} {
		if !bytes.Equal(b, []byte{1, 2, 3, 4}) {
			t.Errorf("an answer follows another one: %x", b)
		}
	}
}

func TestGet(t *testing.T) {
	row := []byte{1, 2, 3, 4, 5, 6, 7, 8, 0xff}
	for _, c := range []struct {
		b        []byte
		at, size int
		want     uint64
	}{
		{[]byte{1, 2}, 0, 2, 258},
		{row, 0, 1, 1},
		{row, 8, 1, 0xff},
		{row, 0, 2, 0x0102},
		{row, 7, 2, 0x08ff},
		{row, 0, 4, 0x01020304},
		{row, 3, 4, 0x04050607},
		{row, 5, 4, 0x060708ff},
		{row, 0, 8, 0x0102030405060708},
		{row, 1, 8, 0x02030405060708ff},
		{[]byte{0x80, 0, 0, 0}, 0, 4, 1 << 31},
		{make([]byte, 8), 0, 8, 0},
		{bytes.Repeat([]byte{255}, 8), 0, 8, math.MaxUint64},
	} {
		if n, e := num.Get(c.b, c.at, c.size); n != c.want || e != api.OK {
			t.Errorf("Get(%x, %d, %d) = %d, %d; want %d", c.b, c.at, c.size, n, e, c.want)
		}
	}
}

func TestGetRefusesWhatIsNoSize(t *testing.T) {
	for _, size := range noSizes() {
		for _, at := range []int{-1, 0, 1, 20, 21, math.MaxInt} {
			if n, e := num.Get(bytes.Repeat([]byte{1}, 20), at, size); n != 0 || e != api.ErrArg {
				t.Errorf("Get(.., %d, %d) = %d, %d; want ErrArg", at, size, n, e)
			}
		}
	}
}

func TestGetRefusesWhatIsNoPlace(t *testing.T) {
	for _, size := range sizes() {
		for _, b := range [][]byte{nil, {}, {1}, bytes.Repeat([]byte{1}, 20)} {
			for _, at := range []int{-1, -8, math.MinInt, len(b) + 1, len(b) + 8, math.MaxInt - 3, math.MaxInt} {
				if n, e := num.Get(b, at, size); n != 0 || e != api.ErrArg {
					t.Errorf("Get(%x, %d, %d) = %d, %d; want ErrArg", b, at, size, n, e)
				}
			}
		}
	}
}

func TestGetTellsTooFewBytes(t *testing.T) {
	for _, size := range sizes() {
		for length := range 12 {
			// What stands behind the end is no part of it.
			b := bytes.Repeat([]byte{1}, 32)[:length]
			for at := range length + 1 {
				want := api.OK
				if at+size > length {
					want = api.ErrShort
				}
				n, e := num.Get(b, at, size)
				if e != want || e != api.OK && n != 0 {
					t.Errorf("Get(%d bytes, %d, %d) = %d, %d; want %d", length, at, size, n, e, want)
				}
			}
		}
		if n, e := num.Get(nil, 0, size); n != 0 || e != api.ErrShort {
			t.Errorf("Get(none, 0, %d) = %d, %d; want ErrShort", size, n, e)
		}
	}
}

func TestArgumentsStay(t *testing.T) {
	room := []byte{0, 0, 3, 4, 5, 6, 7, 8, 9, 10}
	was := bytes.Clone(room)
	num.Get(room[:4], 0, 4)
	num.Get(room[:4], 2, 8)
	num.Zero(room[:4], 0, 2)
	num.Zero(room[:4], 0, 4)
	if !bytes.Equal(room, was) {
		t.Errorf("bytes that were handed in became %x", room)
	}
}

func TestPad(t *testing.T) {
	for n, want := range map[int]int{
		0: 0, 1: 3, 2: 2, 3: 1, 4: 0, 5: 3, 6: 2, 7: 1, 8: 0, 9: 3,
		-1: 0, -2: 0, -3: 0, -4: 0, -5: 0, math.MinInt: 0, math.MinInt + 1: 0,
		math.MaxInt: 1, math.MaxInt - 1: 2, math.MaxInt - 2: 3, math.MaxInt - 3: 0,
	} {
		if p := num.Pad(n); p != want {
			t.Errorf("Pad(%d) = %d; want %d", n, p, want)
		}
	}
	for n := range 300 {
		if p := num.Pad(n); p < 0 || p > 3 || (n+p)%4 != 0 {
			t.Errorf("Pad(%d) = %d", n, p)
		}
	}
}

func TestZero(t *testing.T) {
	b := []byte{0, 0, 1, 0, 0, 0x80, 0}
	for _, c := range []struct {
		at, n int
		want  api.Errno
	}{
		{0, 0, api.OK}, {0, 1, api.OK}, {0, 2, api.OK}, {0, 3, api.ErrForm}, {0, 7, api.ErrForm},
		{1, 1, api.OK}, {1, 2, api.ErrForm}, {1, 3, api.ErrForm},
		{2, 0, api.OK}, {2, 1, api.ErrForm}, {2, 2, api.ErrForm},
		{3, 2, api.OK}, {3, 3, api.ErrForm}, {5, 0, api.OK}, {5, 1, api.ErrForm},
		{6, 1, api.OK}, {6, 2, api.ErrShort}, {7, 0, api.OK}, {7, 1, api.ErrShort},
		{0, 8, api.ErrShort}, {3, 5, api.ErrShort}, {2, 6, api.ErrShort},
		{0, math.MaxInt, api.ErrShort}, {1, math.MaxInt, api.ErrShort}, {7, math.MaxInt, api.ErrShort},
		{-1, 0, api.ErrArg}, {-1, 1, api.ErrArg}, {-1, 100, api.ErrArg}, {math.MinInt, 1, api.ErrArg},
		{8, 0, api.ErrArg}, {8, 1, api.ErrArg}, {math.MaxInt, 0, api.ErrArg}, {math.MaxInt, math.MaxInt, api.ErrArg},
		{0, -1, api.ErrArg}, {2, -1, api.ErrArg}, {7, -1, api.ErrArg}, {7, math.MinInt, api.ErrArg}, {8, -1, api.ErrArg},
	} {
		if e := num.Zero(b, c.at, c.n); e != c.want {
			t.Errorf("Zero(%x, %d, %d) = %d; want %d", b, c.at, c.n, e, c.want)
		}
	}
}

func TestZeroTellsEachByte(t *testing.T) {
	for at := range 5 {
		for bit := range 8 {
			b := make([]byte, 5)
			b[at] = 1 << bit
			if e := num.Zero(b, 0, 5); e != api.ErrForm {
				t.Errorf("Zero(%x, 0, 5) = %d; want ErrForm", b, e)
			}
		}
	}
}

func TestZeroOfNoBytes(t *testing.T) {
	// Room behind the end is no part of it, be it 0 or not.
	for _, b := range [][]byte{nil, {}, make([]byte, 0, 8)} {
		for _, c := range []struct {
			at, n int
			want  api.Errno
		}{{0, 0, api.OK}, {0, 1, api.ErrShort}, {1, 0, api.ErrArg}, {-1, 0, api.ErrArg}, {0, -1, api.ErrArg}} {
			if e := num.Zero(b, c.at, c.n); e != c.want {
				t.Errorf("Zero(none, %d, %d) = %d; want %d", c.at, c.n, e, c.want)
			}
		}
	}
}

func TestAdd(t *testing.T) {
	const top = math.MaxUint64
	for _, c := range []struct {
		a, b, want uint64
		ok         bool
	}{
		{0, 0, 0, true}, {1, 2, 3, true}, {top, 0, top, true}, {top - 1, 1, top, true},
		{1 << 63, 1<<63 - 1, top, true}, {1<<32 - 1, 1, 1 << 32, true}, {1<<63 - 1, 1, 1 << 63, true},
		{top, 1, 0, false}, {top, 2, 0, false}, {top, top, 0, false}, {1 << 63, 1 << 63, 0, false},
		{top - 1, 2, 0, false}, {1<<63 + 5, 1<<63 + 7, 0, false},
	} {
		for _, p := range [][2]uint64{{c.a, c.b}, {c.b, c.a}} {
			if n, ok := num.Add(p[0], p[1]); n != c.want || ok != c.ok {
				t.Errorf("Add(%d, %d) = %d, %t; want %d, %t", p[0], p[1], n, ok, c.want, c.ok)
			}
		}
	}
}

func TestWhatIsPutIsGot(t *testing.T) {
	for _, size := range sizes() {
		for _, n := range numbers() {
			if n > most(size) {
				continue
			}
			b, e := num.Put(n, size)
			if e != api.OK || len(b) != size {
				t.Errorf("Put(%d, %d) = %x, %d", n, size, b, e)
				continue
			}
			for _, ahead := range []int{0, 1, 5} {
				row := append(bytes.Repeat([]byte{0xee}, ahead), b...)
				row = append(row, 0xdd, 0xdd)
				if m, e := num.Get(row, ahead, size); m != n || e != api.OK {
					t.Errorf("Get(%x, %d, %d) = %d, %d; want %d", row, ahead, size, m, e, n)
				}
			}
		}
	}
}

func TestGreaterNumbersHaveGreaterBytes(t *testing.T) {
	for _, size := range sizes() {
		for _, n := range numbers() {
			for _, m := range numbers() {
				if n > most(size) || m > most(size) {
					continue
				}
				x, _ := num.Put(n, size)
				y, _ := num.Put(m, size)
				if bytes.Compare(x, y) != cmp.Compare(n, m) {
					t.Errorf("size %d: %d is %x, %d is %x", size, n, x, m, y)
				}
			}
		}
	}
}
