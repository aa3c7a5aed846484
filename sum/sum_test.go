package sum_test

import (
	"bytes"
	"hash/fnv"
	"math"
	"slices"
	"strings"
	"testing"

	"wharfage/sum"
)

const first = 2166136261

// sums are those around each power of two, and some whose bytes are all unlike.
func sums() []uint32 {
	l := []uint32{first, first - 1, first + 1, 16777619, 899433627, 0x01020304, 0xf0e1d2c3, 0x811c9dc4}
	for i := range 32 {
		p := uint32(1) << i
		l = append(l, p-1, p, p+1)
	}
	return append(l, math.MaxUint32)
}

// taken reckons as the chapter says, in 64 bits, of which what runs over is cut off.
func taken(s uint32, c byte) uint32 {
	high := uint64(s) &^ 255
	low := (uint64(s) & 255) ^ uint64(c)
	return uint32((high | low) * 16777619 % (1 << 32))
}

// rows are bytes of many lengths: none, one kind alone, all kinds, what is padding.
func rows() [][]byte {
	all := make([]byte, 256)
	for i := range all {
		all[i] = byte(i)
	}
	l := [][]byte{nil, {}, {0}, {1}, {0x7f}, {0x80}, {0xff}, {0, 0}, {0, 1}, {1, 0}, {0xff, 0xff}, []byte("a"), []byte("foobar"), []byte("\xc3\xa9"), all}
	for _, n := range []int{3, 4, 31, 42, 44, 52, 60, 63, 64, 65, 1000} {
		l = append(l, make([]byte, n), bytes.Repeat([]byte{0xff}, n), bytes.Repeat([]byte{1, 0, 0x80}, n)[:n])
	}
	return l
}

// TestExamples holds the chapter's table of examples, in its order.
func TestExamples(t *testing.T) {
	if s := sum.Of(nil); s != 2166136261 {
		t.Errorf("Of(none) = %d", s)
	}
	if s := sum.Take(0, 1); s != 16777619 {
		t.Errorf("Take(0, 1) = %d", s)
	}
	if s := sum.Of([]byte("a")); s != 3826002220 {
		t.Errorf("Of(a) = %d", s)
	}
	if s := sum.Back(sum.Take(7, 9), 9); s != 7 {
		t.Errorf("Back(Take(7, 9), 9) = %d", s)
	}
}

func TestTake(t *testing.T) {
	for _, c := range []struct {
		s    uint32
		c    byte
		want uint32
	}{
		{0, 0, 0}, {1, 1, 0}, {255, 255, 0},
		{1, 0, 16777619}, {0, 1, 16777619}, {0, 2, 2 * 16777619}, {7, 9, 14 * 16777619}, {0, 255, 255 * 16777619},
		// What runs over is cut off.
		{256, 0, 256*16777619 - 1<<32}, {256, 1, 257*16777619 - 1<<32}, {1 << 31, 0, 1 << 31}, {1 << 31, 1, 1<<31 + 16777619}, {math.MaxUint32, 0, 1<<32 - 16777619}, {math.MaxUint32, 1, 1<<32 - 2*16777619},
		{first, 0, 0x050c5d1f}, {first, 'a', 0xe40c292c},
	} {
		if s := sum.Take(c.s, c.c); s != c.want {
			t.Errorf("Take(%d, %d) = %d; want %d", c.s, c.c, s, c.want)
		}
	}
	for _, s := range sums() {
		for c := range 256 {
			if got, want := sum.Take(s, byte(c)), taken(s, byte(c)); got != want {
				t.Errorf("Take(%d, %d) = %d; want %d", s, c, got, want)
			}
		}
	}
}

func TestMore(t *testing.T) {
	for _, s := range sums() {
		for _, b := range rows() {
			want := s
			for _, c := range b {
				want = taken(want, c)
			}
			if got := sum.More(s, b); got != want {
				t.Errorf("More(%d, %x) = %d; want %d", s, b, got, want)
			}
		}
		if got := sum.More(s, nil); got != s {
			t.Errorf("More(%d, none) = %d", s, got)
		}
	}
	// One behind the other: the order counts.
	if got, want := sum.More(7, []byte{1, 2}), sum.Take(sum.Take(7, 1), 2); got != want || got == sum.More(7, []byte{2, 1}) {
		t.Errorf("More(7, 1 2) = %d; want %d", got, want)
	}
}

func TestOf(t *testing.T) {
	for _, c := range []struct {
		b    string
		want uint32
	}{
		{"", 0x811c9dc5}, {"\x00", 0x050c5d1f}, {"a", 0xe40c292c}, {"b", 0xe70c2de5}, {"foo", 0xa9f37ed7}, {"foobar", 0xbf9cf968}, {"chongo was here!\n", 0xd49930d5},
	} {
		if s := sum.Of([]byte(c.b)); s != c.want {
			t.Errorf("Of(%q) = %x; want %x", c.b, s, c.want)
		}
	}
	long := []byte(strings.Repeat("wharfage\x00\xff", 1<<17))
	for _, b := range append(rows(), long) {
		h := fnv.New32a()
		h.Write(b)
		if s, want := sum.Of(b), h.Sum32(); s != want {
			t.Errorf("Of(%.50x) = %x; want %x", b, s, want)
		}
	}
}

// TestBackUndoesTake, and Take undoes Back: each is the other's inverse.
func TestBackUndoesTake(t *testing.T) {
	for _, s := range sums() {
		for c := range 256 {
			if got := sum.Back(sum.Take(s, byte(c)), byte(c)); got != s {
				t.Errorf("Back(Take(%d, %d), %d) = %d", s, c, c, got)
			}
			if got := sum.Take(sum.Back(s, byte(c)), byte(c)); got != s {
				t.Errorf("Take(Back(%d, %d), %d) = %d", s, c, c, got)
			}
		}
	}
}

func TestBack(t *testing.T) {
	for _, c := range []struct {
		s    uint32
		c    byte
		want uint32
	}{
		{0, 0, 0}, {0, 9, 9}, {0, 255, 255}, {1, 0, 899433627}, {2, 0, 2 * 899433627}, {1, 1, 899433626}, {16777619, 0, 1}, {16777619, 1, 0},
		{1 << 31, 0, 1 << 31}, {math.MaxUint32, 0, 1<<32 - 899433627}, {3826002220, 'a', first}, {first, 0, 0xb347da47},
	} {
		if s := sum.Back(c.s, c.c); s != c.want {
			t.Errorf("Back(%d, %d) = %d; want %d", c.s, c.c, s, c.want)
		}
	}
	for _, b := range rows() {
		s := sum.Of(b)
		for i, c := range slices.Backward(b) {
			s = sum.Back(s, c)
			if want := sum.Of(b[:i]); s != want {
				t.Fatalf("Back of %x at %d = %d; want %d", b, i, s, want)
			}
		}
		if s != first {
			t.Errorf("Back through %x = %d", b, s)
		}
	}
}

// TestPieces cuts bytes at each place, and at each two places.
func TestPieces(t *testing.T) {
	for _, b := range rows() {
		want := sum.Of(b)
		for i := range len(b) + 1 {
			if s := sum.More(sum.Of(b[:i]), b[i:]); s != want {
				t.Errorf("%x cut at %d: %d; want %d", b, i, s, want)
			}
		}
	}
	b := []byte("in three pieces \x00\xff\x80 as well")
	for i := range len(b) + 1 {
		for j := i; j <= len(b); j++ {
			if s := sum.More(sum.More(sum.Of(b[:i]), b[i:j]), b[j:]); s != sum.Of(b) {
				t.Errorf("cut at %d and %d: %d; want %d", i, j, s, sum.Of(b))
			}
		}
	}
}

// TestOneByteTellsSumsApart goes through all values of each byte.
func TestOneByteTellsSumsApart(t *testing.T) {
	for _, b := range rows() {
		b = bytes.Clone(b)
		for i, was := range b {
			of := map[uint32]int{}
			for c := range 256 {
				b[i] = byte(c)
				s := sum.Of(b)
				if other, ok := of[s]; ok {
					t.Fatalf("%d bytes: %d and %d at %d have the sum %d", len(b), other, c, i, s)
				}
				of[s] = c
			}
			b[i] = was
		}
	}
}

func TestArgumentsStay(t *testing.T) {
	room := []byte{1, 2, 3, 4, 5, 6, 7, 8}
	was := bytes.Clone(room)
	s, more := sum.Of(room[:4]), sum.More(7, room[:4])
	if !bytes.Equal(room, was) {
		t.Errorf("bytes that were handed in became %x", room)
	}
	// What stands behind the end is no part of it.
	room[4]++
	if sum.Of(room[:4]) != s || sum.More(7, room[:4]) != more {
		t.Error("a sum follows what stands behind the end")
	}
}

func TestNothingIsKept(t *testing.T) {
	b := []byte("foobar")
	s := sum.Of(b)
	sum.More(s, b)
	sum.Take(s, 'a')
	sum.Back(s, 'r')
	if again := sum.Of(b); again != s || sum.Of(nil) != first {
		t.Errorf("Of(foobar) = %x, and then %x", s, again)
	}
}
