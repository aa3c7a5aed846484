package seal_test

import (
	"bytes"
	"encoding/binary"
	"hash/fnv"
	"math"
	"slices"
	"testing"

	"wharfage/api"
	"wharfage/seal"
)

// sealed makes the block that the chapter describes, byte by byte.
func sealed(number uint32, body []byte) (b api.Block) {
	four := binary.BigEndian.AppendUint32(nil, number)
	whole := make([]byte, 44)
	copy(whole, body)
	h := fnv.New32a()
	h.Write(four)
	h.Write(whole)
	whole = h.Sum(whole)
	for i, c := range whole {
		b[i/12*16+4+i%12] = c
	}
	for i := range b {
		if i%16 < 4 {
			b[i] = four[i%16]
		}
	}
	return b
}

// headed is a block of c whose quarters have these numbers.
func headed(c byte, n ...uint32) (b api.Block) {
	copy(b[:], bytes.Repeat([]byte{c}, 64))
	for q, x := range n {
		binary.BigEndian.PutUint32(b[16*q:], x)
	}
	return b
}

// row is a body of n bytes that are all unlike.
func row(first byte, n int) []byte {
	b := make([]byte, n)
	for i := range b {
		b[i] = first + byte(i)
	}
	return b
}

func put(t *testing.T, number uint32, body []byte) api.Block {
	t.Helper()
	b, e := seal.Put(number, body)
	if e != api.OK {
		t.Fatalf("Put(%d, %x): %d", number, body, e)
	}
	return b
}

func gets(t *testing.T, b api.Block, number uint32, body []byte) {
	t.Helper()
	want := make([]byte, 44)
	copy(want, body)
	if n, got, e := seal.Get(b); n != number || !bytes.Equal(got, want) || e != api.OK {
		t.Errorf("Get(%x) = %d, %x, %d; want %d, %x", b, n, got, e, number, want)
	}
}

func refuses(t *testing.T, b api.Block, want api.Errno) {
	t.Helper()
	if n, body, e := seal.Get(b); e != want || n != 0 || body != nil {
		t.Errorf("Get(%x) = %d, %x, %d; want %d", b, n, body, e, want)
	}
}

func numbers() []uint32 {
	return []uint32{1, 2, 5, 6, 255, 256, 258, 0xffff, 0x10000, 0x01020304, 0xffffff, 0x1000000, 1 << 31, math.MaxUint32 - 1, math.MaxUint32}
}

func bodies() [][]byte {
	l := [][]byte{nil, {}, {0}, {1}, {0xff}, bytes.Repeat([]byte{0xff}, 44), make([]byte, 44)}
	for n := range 45 {
		l = append(l, row(1, n), row(200, n))
	}
	return l
}

// TestExamples holds the chapter's table of examples, in its order.
func TestExamples(t *testing.T) {
	if _, e := seal.Put(0, nil); e != api.ErrArg {
		t.Errorf("Put(0, none): %d", e)
	}
	if _, e := seal.Put(0, make([]byte, 45)); e != api.ErrLimit {
		t.Errorf("Put(0, 45 bytes): %d", e)
	}
	b, e := seal.Put(258, []byte{7})
	if !bytes.Equal(b[:6], []byte{0, 0, 1, 2, 7, 0}) || b[18] != 1 || e != api.OK {
		t.Errorf("Put(258, 7) = %x, %d", b, e)
	}
	refuses(t, api.Block{}, api.ErrForm)
	five, six := put(t, 5, []byte{1, 2}), put(t, 6, []byte{3})
	refuses(t, seal.Mix(five, six, 2), api.ErrForm)
	if n := seal.Greatest(seal.Mix(five, six, 2)); n != 6 {
		t.Errorf("Greatest = %d", n)
	}
	if n := seal.Greatest(seal.Mix(five, six, 31)); n != 6 {
		t.Errorf("Greatest = %d", n)
	}
}

func TestPut(t *testing.T) {
	for _, n := range numbers() {
		for _, body := range bodies() {
			if got, want := put(t, n, body), sealed(n, body); got != want {
				t.Errorf("Put(%d, %x) = %x; want %x", n, body, got, want)
			}
		}
	}
}

// TestPutBytes holds one block in full, so that the reckoning beside it is held too.
func TestPutBytes(t *testing.T) {
	b := put(t, 0x01020304, row(1, 44))
	want := api.Block{
		1, 2, 3, 4, 1, 2, 3, 4, 5, 6, 7, 8, 9, 10, 11, 12,
		1, 2, 3, 4, 13, 14, 15, 16, 17, 18, 19, 20, 21, 22, 23, 24,
		1, 2, 3, 4, 25, 26, 27, 28, 29, 30, 31, 32, 33, 34, 35, 36,
		1, 2, 3, 4, 37, 38, 39, 40, 41, 42, 43, 44,
	}
	s := uint32(2166136261)
	for _, c := range append([]byte{1, 2, 3, 4}, row(1, 44)...) {
		s = (s ^ uint32(c)) * 16777619
	}
	copy(want[60:], []byte{byte(s >> 24), byte(s >> 16), byte(s >> 8), byte(s)})
	if b != want {
		t.Errorf("Put = %x; want %x", b, want)
	}
}

func TestPutRefuses(t *testing.T) {
	for _, c := range []struct {
		number uint32
		size   int
		e      api.Errno
	}{
		{0, 0, api.ErrArg}, {0, 1, api.ErrArg}, {0, 44, api.ErrArg},
		{0, 45, api.ErrLimit}, {1, 45, api.ErrLimit}, {1, 64, api.ErrLimit}, {1, 1 << 20, api.ErrLimit}, {math.MaxUint32, 45, api.ErrLimit},
		{1, 0, api.OK}, {1, 44, api.OK}, {math.MaxUint32, 44, api.OK},
	} {
		b, e := seal.Put(c.number, make([]byte, c.size))
		if e != c.e || e != api.OK && b != (api.Block{}) {
			t.Errorf("Put(%d, %d bytes) = %x, %d; want %d", c.number, c.size, b, e, c.e)
		}
	}
}

func TestGet(t *testing.T) {
	for _, n := range numbers() {
		for _, body := range bodies() {
			gets(t, put(t, n, body), n, body)
			gets(t, sealed(n, body), n, body)
		}
	}
}

func TestGetForm(t *testing.T) {
	for _, n := range [][]uint32{
		{1, 1, 1, 2}, {1, 1, 2, 1}, {1, 2, 1, 1}, {2, 1, 1, 1}, {1, 1, 2, 2}, {1, 2, 1, 2}, {1, 2, 3, 4}, {4, 3, 2, 1},
		{0, 0, 0, 0}, {0, 1, 1, 1}, {1, 0, 1, 1}, {1, 1, 0, 1}, {1, 1, 1, 0}, {0, 0, 0, 1}, {1, 0, 0, 0},
		{256, 1, 1, 1}, {1, 1, 1, 1 << 24}, {math.MaxUint32, 0, 0, 0}, {math.MaxUint32, math.MaxUint32, math.MaxUint32, math.MaxUint32 - 1},
	} {
		for _, c := range []byte{0, 1, 0xff} {
			refuses(t, headed(c, n...), api.ErrForm)
		}
	}
	// The number 0 is refused even where the sum is right.
	refuses(t, sealed(0, nil), api.ErrForm)
	refuses(t, sealed(0, row(1, 44)), api.ErrForm)
}

func TestGetSum(t *testing.T) {
	for _, n := range numbers() {
		for _, c := range []byte{0, 1, 0xff} {
			refuses(t, headed(c, n, n, n, n), api.ErrSum)
		}
		// The sum is the number's too: a body's with another number is another one.
		b := sealed(n, row(1, 44))
		for q := range 4 {
			binary.BigEndian.PutUint32(b[16*q:], n^1|2)
		}
		if n != n^1|2 {
			refuses(t, b, api.ErrSum)
		}
	}
}

// TestOneByte changes each byte of a block to each other value.
func TestOneByte(t *testing.T) {
	for _, b := range []api.Block{put(t, 1, nil), put(t, 258, []byte{7}), put(t, math.MaxUint32, row(1, 44)), put(t, 0x01010101, bytes.Repeat([]byte{1}, 44))} {
		for i := range b {
			for by := 1; by < 256; by++ {
				x := b
				x[i] ^= byte(by)
				want := api.ErrSum
				if i%16 < 4 {
					want = api.ErrForm
				}
				refuses(t, x, want)
			}
		}
	}
}

func TestGreatest(t *testing.T) {
	for _, c := range []struct {
		n    []uint32
		want uint32
	}{
		{[]uint32{0, 0, 0, 0}, 0}, {[]uint32{1, 0, 0, 0}, 1}, {[]uint32{0, 1, 0, 0}, 1}, {[]uint32{0, 0, 1, 0}, 1}, {[]uint32{0, 0, 0, 1}, 1},
		{[]uint32{4, 3, 2, 1}, 4}, {[]uint32{1, 2, 3, 4}, 4}, {[]uint32{2, 4, 1, 3}, 4}, {[]uint32{7, 7, 7, 7}, 7},
		{[]uint32{0x01000000, 0x00ffffff, 0, 0}, 0x01000000}, {[]uint32{255, 256, 0, 1}, 256},
		{[]uint32{math.MaxInt32, 1 << 31, 1, 0}, 1 << 31}, {[]uint32{1, 2, math.MaxUint32, 1 << 31}, math.MaxUint32},
	} {
		// Whatever else the block says.
		for _, by := range []byte{0, 1, 0xff} {
			if n := seal.Greatest(headed(by, c.n...)); n != c.want {
				t.Errorf("Greatest(%d) = %d; want %d", c.n, n, c.want)
			}
		}
	}
	for _, n := range numbers() {
		if got := seal.Greatest(put(t, n, row(250, 44))); got != n {
			t.Errorf("Greatest = %d; want %d", got, n)
		}
	}
}

func TestMix(t *testing.T) {
	var a, b api.Block
	for i := range a {
		a[i], b[i] = byte(i), byte(i+100)
	}
	for bits := range 256 {
		want := a
		for i := range want {
			if bits>>(i/16)&1 == 1 {
				want[i] = b[i]
			}
		}
		if m := seal.Mix(a, b, uint8(bits)); m != want {
			t.Errorf("Mix(%d) = %x; want %x", bits, m, want)
		}
	}
}

// TestMixes holds that a mix is the one, or the other, or refused: of unlike numbers, and of one and a block of 0s.
func TestMixes(t *testing.T) {
	for _, body := range [][]byte{nil, row(1, 44), {7}} {
		l := []api.Block{{}}
		for _, n := range numbers() {
			l = append(l, put(t, n, body))
		}
		for i, a := range l {
			for j, b := range l {
				if i == j {
					continue
				}
				for bits := range uint8(16) {
					mixed(t, a, b, bits)
				}
			}
		}
	}
}

func mixed(t *testing.T, a, b api.Block, bits uint8) {
	t.Helper()
	m := seal.Mix(a, b, bits)
	_, _, e := seal.Get(m)
	switch {
	case bits == 0 && m != a, bits == 15 && m != b:
		t.Errorf("Mix(%x, %x, %d) = %x", a, b, bits, m)
	case bits > 0 && bits < 15:
		refuses(t, m, api.ErrForm)
	case (e == api.OK) != (m != api.Block{}):
		t.Errorf("Get(%x): %d", m, e)
	}
}

// TestSameSum mixes two blocks whose sums are one: it is the numbers that tell the mix.
func TestSameSum(t *testing.T) {
	a := put(t, 1, nil)
	b := put(t, 2, sameSum(t, a))
	if !bytes.Equal(a[60:], b[60:]) {
		t.Fatalf("sums are unlike: %x, %x", a, b)
	}
	for bits := range uint8(16) {
		mixed(t, a, b, bits)
		mixed(t, b, a, bits)
	}
}

// sameSum looks for a body that gives the number 2 the sum of a, among those of four bytes that are followed by 0s: from both ends, two bytes each.
func sameSum(t *testing.T, a api.Block) []byte {
	t.Helper()
	const factor, inverse = 16777619, 899433627
	from := uint32(2166136261)
	for _, c := range []byte{0, 0, 0, 2} {
		from = (from ^ uint32(c)) * factor
	}
	to := binary.BigEndian.Uint32(a[60:])
	for range 39 {
		to *= inverse
	}
	heads := map[uint32][]byte{}
	for i := range 1 << 16 {
		x, y := byte(i>>8), byte(i)
		heads[((from^uint32(x))*factor^uint32(y))*factor] = []byte{x, y}
	}
	for i := range 1 << 24 {
		x, y, z := byte(i>>16), byte(i>>8), byte(i)
		back := (((to*inverse)^uint32(z))*inverse ^ uint32(y)) * inverse
		if h, ok := heads[back^uint32(x)]; ok {
			return append(slices.Clone(h), x, y, z)
		}
	}
	t.Fatal("no body has that sum")
	return nil
}

func TestArgumentsStay(t *testing.T) {
	for n := range 45 {
		room := row(1, 64)
		body := room[:n]
		b := put(t, 9, body)
		if !bytes.Equal(room, row(1, 64)) {
			t.Fatalf("Put changed what it was handed: %x", room)
		}
		// Nor is it kept.
		clear(room)
		gets(t, b, 9, row(1, n))
	}
}

func TestAnswersAreNew(t *testing.T) {
	b := put(t, 9, row(1, 44))
	_, one, _ := seal.Get(b)
	_, two, _ := seal.Get(b)
	for i := range one[:cap(one)] {
		one[:cap(one)][i] = 0xee
	}
	if !bytes.Equal(two, row(1, 44)) {
		t.Errorf("two answers share memory: %x", two)
	}
	gets(t, b, 9, row(1, 44))
}
