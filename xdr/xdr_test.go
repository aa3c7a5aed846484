package xdr_test

import (
	"bytes"
	"encoding/binary"
	"encoding/hex"
	"fmt"
	"math"
	"math/rand"
	"slices"
	"strings"
	"testing"

	"wharfage/api"
	"wharfage/xdr"
)

// thing is one that is laid, and told: a uint32, a uint64, a bool or a []byte.
type thing any

// unhex tells the bytes of hexadecimal digits, blanks left out.
func unhex(text string) []byte {
	b, err := hex.DecodeString(strings.ReplaceAll(text, " ", ""))
	if err != nil {
		panic(err)
	}
	return b
}

// long is n bytes of which those beside one another are unlike, and none is 0.
func long(n int) []byte {
	b := make([]byte, n)
	for i := range b {
		b[i] = byte(i%255 + 1)
	}
	return b
}

// numbers are those around each power of two, and some whose bytes are all unlike.
func numbers() []uint64 {
	l := []uint64{0x0102030405060708, 0xf0e1d2c3b4a59687, 0x01020304, 0xfedc, math.MaxUint64}
	for i := range 64 {
		p := uint64(1) << i
		l = append(l, p-1, p, p+1)
	}
	return l
}

// plain tells the bytes of a thing, as the chapter says.
func plain(x thing) []byte {
	switch v := x.(type) {
	case uint32:
		return binary.BigEndian.AppendUint32(nil, v)
	case uint64:
		return binary.BigEndian.AppendUint64(nil, v)
	case bool:
		if v {
			return []byte{0, 0, 0, 1}
		}
		return make([]byte, 4)
	}
	b := append(plain(uint32(len(x.([]byte)))), x.([]byte)...)
	for len(b)%4 > 0 {
		b = append(b, 0)
	}
	return b
}

func lay(w *xdr.Writer, x thing) {
	switch v := x.(type) {
	case uint32:
		w.Number(v)
	case uint64:
		w.Great(v)
	case bool:
		w.Truth(v)
	case []byte:
		w.Bytes(v)
	}
}

// told asks for a thing of x's kind; of bytes for as many as x has at most.
func told(r *xdr.Reader, x thing) thing {
	switch x.(type) {
	case uint32:
		return r.Number()
	case uint64:
		return r.Great()
	case bool:
		return r.Truth()
	}
	return r.Bytes(len(x.([]byte)))
}

func like(a, b thing) bool {
	if x, is := a.([]byte); is {
		y, is := b.([]byte)
		return is && bytes.Equal(x, y)
	}
	return a == b
}

func laid(l ...thing) []byte {
	w := &xdr.Writer{}
	for _, x := range l {
		lay(w, x)
	}
	return w.Bare()
}

func is(t *testing.T, what string, got, want api.Errno) {
	t.Helper()
	if got != want {
		t.Errorf("%s: %d; want %d", what, got, want)
	}
}

// stuck holds that a reader tells an error, and nothing else, however often it is asked.
func stuck(t *testing.T, what string, r *xdr.Reader, want api.Errno) {
	t.Helper()
	for range 2 {
		is(t, what+": Error", r.Error(), want)
		is(t, what+": End", r.End(), want)
		n, g, is, b, none := r.Number(), r.Great(), r.Truth(), r.Bytes(99), r.Bytes(-1)
		if n != 0 || g != 0 || is || len(b) > 0 || len(none) > 0 {
			t.Errorf("%s: behind an error: %d, %d, %t, %x, %x", what, n, g, is, b, none)
		}
	}
}

// TestExamples holds the chapter's table of examples, in its order.
func TestExamples(t *testing.T) {
	w := &xdr.Writer{}
	w.Number(1)
	w.Truth(true)
	w.Bytes([]byte{7, 8, 9})
	bare := w.Bare()
	if want := unhex("00 00 00 01 00 00 00 01 00 00 00 03 07 08 09 00"); !bytes.Equal(bare, want) {
		t.Errorf("Bare = %x; want %x", bare, want)
	}
	r := xdr.NewReader(bare)
	if n, is, b, e := r.Number(), r.Truth(), r.Bytes(3), r.End(); n != 1 || !is || !bytes.Equal(b, []byte{7, 8, 9}) || e != api.OK {
		t.Errorf("told: %d, %t, %x, %d", n, is, b, e)
	}
	r = xdr.NewReader(unhex("00 00 00 02"))
	if is, e := r.Truth(), r.Error(); is || e != api.ErrForm {
		t.Errorf("Truth of 2 = %t, %d", is, e)
	}
	r = xdr.NewReader(unhex("00 00 00 09"))
	if b, e := r.Bytes(8), r.Error(); len(b) > 0 || e != api.ErrLimit {
		t.Errorf("Bytes(8) of 9 = %x, %d", b, e)
	}
}

// TestWriterLays holds each call's bytes.
func TestWriterLays(t *testing.T) {
	for _, c := range []struct {
		x    thing
		want string
	}{
		{uint32(0), "00000000"}, {uint32(1), "00000001"}, {uint32(0x01020304), "01020304"}, {uint32(0x80000000), "80000000"}, {uint32(math.MaxUint32), "ffffffff"},
		{uint64(0), "00000000 00000000"}, {uint64(1), "00000000 00000001"}, {uint64(1 << 32), "00000001 00000000"}, {uint64(0x0102030405060708), "01020304 05060708"}, {uint64(math.MaxUint64), "ffffffff ffffffff"},
		{false, "00000000"}, {true, "00000001"},
		{[]byte(nil), "00000000"}, {[]byte{}, "00000000"}, {[]byte{0}, "00000001 00000000"}, {[]byte{7}, "00000001 07000000"}, {[]byte{7, 8}, "00000002 07080000"},
		{[]byte{7, 8, 9}, "00000003 07080900"}, {[]byte{7, 8, 9, 10}, "00000004 0708090a"}, {[]byte{7, 8, 9, 10, 11}, "00000005 0708090a 0b000000"}, {[]byte{0, 0, 0, 0}, "00000004 00000000"},
		{[]byte("\xffé"), "00000003 ffc3a900"},
	} {
		if got := laid(c.x); !bytes.Equal(got, unhex(c.want)) {
			t.Errorf("%v is laid as %x; want %s", c.x, got, c.want)
		}
	}
	for _, n := range numbers() {
		for _, x := range []thing{uint32(n), n} {
			if got := laid(x); !bytes.Equal(got, plain(x)) {
				t.Errorf("%v is laid as %x; want %x", x, got, plain(x))
			}
		}
	}
}

// TestWriterPads lays bytes of many lengths.
func TestWriterPads(t *testing.T) {
	for _, n := range []int{0, 1, 2, 3, 4, 5, 6, 7, 8, 9, 61, 62, 63, 64, 65, 255, 256, 257, api.MaxMessage, 65535, 65536, 1<<20 + 1} {
		b := laid(long(n))
		if !bytes.Equal(b, plain(long(n))) || len(b)%4 > 0 || len(b) < 4+n || len(b) > 4+n+3 {
			t.Errorf("%d bytes are laid as %d", n, len(b))
		}
	}
}

// TestWriterLaysBehind: Bare tells all, whenever it is asked, and goes on.
func TestWriterLaysBehind(t *testing.T) {
	w := &xdr.Writer{}
	if b := w.Bare(); len(b) > 0 {
		t.Errorf("a zero writer has laid %x", b)
	}
	var want []byte
	for turn := range 30 {
		for _, x := range []thing{uint32(turn), uint64(turn) << 40, turn%2 == 0, long(turn), []byte(nil)} {
			lay(w, x)
			want = append(want, plain(x)...)
			if b := w.Bare(); !bytes.Equal(b, want) || !bytes.Equal(w.Bare(), want) {
				t.Fatalf("behind %v: %x; want %x", x, b, want)
			}
		}
	}
}

func TestWriterNil(t *testing.T) {
	var w *xdr.Writer
	for _, x := range []thing{uint32(7), uint64(7), true, false, long(9), []byte(nil)} {
		lay(w, x)
	}
	if b := w.Bare(); len(b) > 0 {
		t.Errorf("a nil writer has laid %x", b)
	}
}

// TestWritersAreApart: two writers lay each its own.
func TestWritersAreApart(t *testing.T) {
	a, b := new(xdr.Writer), new(xdr.Writer)
	a.Number(1)
	b.Great(2)
	a.Truth(true)
	if !bytes.Equal(a.Bare(), unhex("00000001 00000001")) || !bytes.Equal(b.Bare(), unhex("00000000 00000002")) {
		t.Errorf("%x and %x", a.Bare(), b.Bare())
	}
}

// TestWriterSharesNothing changes what was handed in, and what was answered.
func TestWriterSharesNothing(t *testing.T) {
	room := long(40)
	w := &xdr.Writer{}
	w.Bytes(room[:5])
	if !bytes.Equal(room, long(40)) {
		t.Errorf("bytes that were handed in became %x", room)
	}
	clear(room)
	want := plain(long(5))
	first, second := w.Bare(), w.Bare()
	clear(first[:cap(first)])
	if !bytes.Equal(second, want) || !bytes.Equal(w.Bare(), want) {
		t.Errorf("an answer follows another one: %x, %x", second, w.Bare())
	}
	_ = append(second, 9, 9, 9, 9)
	w.Number(3)
	if !bytes.Equal(second, want) {
		t.Errorf("an answer follows the writer: %x", second)
	}
	want = append(want, 0, 0, 0, 3)
	w.Bytes(w.Bare())
	if want = append(want, plain(want)...); !bytes.Equal(w.Bare(), want) {
		t.Errorf("Bare = %x; want %x", w.Bare(), want)
	}
}

// TestReaderTells holds what each call tells, and that it ends where its thing does.
func TestReaderTells(t *testing.T) {
	l := []thing{true, false, []byte(nil), []byte{0}, []byte{0, 0, 0, 0}}
	for _, n := range numbers() {
		l = append(l, uint32(n), n)
	}
	for n := range 70 {
		l = append(l, long(n))
	}
	l = append(l, long(65536), long(1<<20+1))
	for _, x := range l {
		r := xdr.NewReader(append(plain(x), 1, 2, 3, 4))
		if got := told(r, x); !like(got, x) {
			t.Errorf("%.200v is told as %.200v", x, got)
		}
		if n := r.Number(); n != 0x01020304 || r.End() != api.OK || r.Error() != api.OK {
			t.Errorf("behind %.200v: %x, %d, %d", x, n, r.End(), r.Error())
		}
	}
}

// TestReaderShort cuts each thing at each of its bytes: at the beginning, and behind another one.
func TestReaderShort(t *testing.T) {
	for _, x := range []thing{uint32(0), uint32(math.MaxUint32), uint64(0), uint64(math.MaxUint64), true, false, []byte(nil), long(1), long(2), long(3), long(4), long(5), long(8), make([]byte, 6)} {
		b := plain(x)
		for n := range b {
			// What stands behind the end is no part of it.
			r := xdr.NewReader(b[:n])
			what := fmt.Sprintf("%v of %x", x, b[:n])
			told(r, x)
			stuck(t, what, r, api.ErrShort)
			r = xdr.NewReader(append([]byte{0, 0, 0, 5}, b[:n]...))
			if n := r.Number(); n != 5 || r.Error() != api.OK {
				t.Errorf("Number = %d, %d", n, r.Error())
			}
			told(r, x)
			stuck(t, "behind a number, "+what, r, api.ErrShort)
		}
	}
}

// TestReaderForm: neither 0 nor 1 is no truth, and padding that is not 0 is none.
func TestReaderForm(t *testing.T) {
	for _, n := range numbers() {
		r := xdr.NewReader(append(plain(uint32(n)), 0, 0, 0, 1))
		switch v := uint32(n); v {
		case 0, 1:
			if r.Truth() != (v == 1) || r.Error() != api.OK {
				t.Errorf("Truth of %d: %d", v, r.Error())
			}
		default:
			if r.Truth() {
				t.Errorf("Truth of %d", v)
			}
			stuck(t, fmt.Sprintf("Truth of %d", v), r, api.ErrForm)
		}
	}
	for n := range 10 {
		good := append(plain(long(n)), 0, 0, 0, 1)
		for at := 4 + n; at < len(good)-4; at++ {
			for _, c := range []byte{1, 2, 0x7f, 0x80, 0xff} {
				b := bytes.Clone(good)
				b[at] = c
				r := xdr.NewReader(b)
				if got := r.Bytes(n); len(got) > 0 {
					t.Errorf("Bytes of %x = %x", b, got)
				}
				stuck(t, fmt.Sprintf("Bytes of %x", b), r, api.ErrForm)
			}
		}
	}
}

// TestReaderLimit asks for bytes with each limit around how many there are.
func TestReaderLimit(t *testing.T) {
	for n := range 12 {
		b := plain(long(n))
		for _, most := range []int{math.MinInt, math.MinInt + 1, math.MinInt32, -1 << 32, -n, -4, -1, 0, 1, n - 1, n, n + 1, n + 3, n + 4, api.MaxMessage, math.MaxUint32, 1 << 32, 1 << 40, math.MaxInt - 1, math.MaxInt} {
			r := xdr.NewReader(b)
			got := r.Bytes(most)
			if max(most, 0) < n {
				if len(got) > 0 {
					t.Errorf("Bytes(%d) = %x", most, got)
				}
				stuck(t, fmt.Sprintf("Bytes(%d) of %d", most, n), r, api.ErrLimit)
			} else if !bytes.Equal(got, long(n)) || r.End() != api.OK {
				t.Errorf("Bytes(%d) of %d = %x, %d", most, n, got, r.End())
			}
		}
	}
}

// TestReaderOrder: which error is told, where more than one applies.
func TestReaderOrder(t *testing.T) {
	for _, c := range []struct {
		b    string
		most int
		want api.Errno
	}{
		// How many there are does not stand there: nobody knows whether they are too many.
		{"", -1, api.ErrShort}, {"ffffff", 0, api.ErrShort}, {"000000", 0, api.ErrShort},
		{"00000009", 8, api.ErrLimit}, {"00000009", 9, api.ErrShort}, {"00000009", 10, api.ErrShort},
		{"ffffffff", math.MaxUint32 - 1, api.ErrLimit}, {"ffffffff", math.MaxUint32, api.ErrShort}, {"ffffffff", math.MaxInt, api.ErrShort},
		{"80000000 01", math.MaxInt32, api.ErrLimit}, {"80000000 01", math.MaxInt, api.ErrShort}, {"7fffffff 01", math.MaxInt, api.ErrShort}, {"fffffffc", math.MaxInt, api.ErrShort}, {"fffffffd", math.MaxInt, api.ErrShort},
		{"00000001", 0, api.ErrLimit}, {"00000001", -1, api.ErrLimit}, {"00000001", math.MinInt, api.ErrLimit}, {"00000001 07ffffff", 0, api.ErrLimit},
		// Padding that is not there, ahead of padding that is not 0.
		{"00000001 07", 1, api.ErrShort}, {"00000001 0701", 1, api.ErrShort}, {"00000001 070100", 1, api.ErrShort}, {"00000001 07010000", 1, api.ErrForm}, {"00000003 07080901", 3, api.ErrForm},
		{"00000005 0708090a 0b0000", 5, api.ErrShort}, {"00000005 0708090a 0b000001", 5, api.ErrForm}, {"00000005 0708090a 0b000001", 4, api.ErrLimit},
	} {
		r := xdr.NewReader(unhex(c.b))
		if got := r.Bytes(c.most); len(got) > 0 {
			t.Errorf("Bytes(%d) of %s = %x", c.most, c.b, got)
		}
		stuck(t, fmt.Sprintf("Bytes(%d) of %s", c.most, c.b), r, c.want)
	}
}

// TestFirstErrorStays: behind an error, what would be good is not told, nor is another error.
func TestFirstErrorStays(t *testing.T) {
	good := laid(uint32(1), true, long(3), uint64(5))
	for _, c := range []struct {
		b    string
		fail func(*xdr.Reader)
		want api.Errno
	}{
		{"00000002", func(r *xdr.Reader) { r.Truth() }, api.ErrForm},
		{"00000009", func(r *xdr.Reader) { r.Bytes(8) }, api.ErrLimit},
		{"00000001 07000001", func(r *xdr.Reader) { r.Bytes(8) }, api.ErrForm},
		{"ffffffff", func(r *xdr.Reader) { r.Bytes(math.MaxInt) }, api.ErrShort},
	} {
		r := xdr.NewReader(append(unhex(c.b), good...))
		c.fail(r)
		stuck(t, c.b, r, c.want)
		r.Truth()
		r.Bytes(math.MinInt)
		for range 20 {
			r.Great()
		}
		stuck(t, c.b, r, c.want)
	}
	// Nothing of a great number is told, though half of it stands there.
	r := xdr.NewReader(unhex("00000001 00000001 0000"))
	r.Number()
	if n := r.Great(); n != 0 {
		t.Errorf("Great = %d", n)
	}
	stuck(t, "Great", r, api.ErrShort)
}

// TestEnd: that bytes are left is no error that stays.
func TestEnd(t *testing.T) {
	b := laid(uint32(7), []byte(nil), long(2), true)
	r := xdr.NewReader(append(b, 0))
	ask := func(want api.Errno) {
		t.Helper()
		is(t, "End", r.End(), want)
		is(t, "Error", r.Error(), api.OK)
	}
	ask(api.ErrForm)
	if n := r.Number(); n != 7 {
		t.Errorf("Number = %d", n)
	}
	ask(api.ErrForm)
	if b := r.Bytes(0); len(b) > 0 {
		t.Errorf("Bytes = %x", b)
	}
	ask(api.ErrForm)
	if b := r.Bytes(2); !bytes.Equal(b, long(2)) {
		t.Errorf("Bytes = %x", b)
	}
	ask(api.ErrForm)
	if !r.Truth() {
		t.Error("Truth")
	}
	ask(api.ErrForm)
	r = xdr.NewReader(b)
	for _, x := range []thing{uint32(7), []byte(nil), long(2), true} {
		told(r, x)
	}
	ask(api.OK)
	ask(api.OK)
	r.Number()
	stuck(t, "at the end", r, api.ErrShort)
}

// TestReaderNone asks readers that no call made, and readers of no bytes.
func TestReaderNone(t *testing.T) {
	for _, r := range []*xdr.Reader{nil, {}, new(xdr.Reader)} {
		stuck(t, "none", r, api.ErrShort)
	}
	for _, b := range [][]byte{nil, {}} {
		r := xdr.NewReader(b)
		if r == nil {
			t.Fatal("no reader")
		}
		is(t, "Error", r.Error(), api.OK)
		is(t, "End", r.End(), api.OK)
	}
	for _, ask := range []func(*xdr.Reader){
		func(r *xdr.Reader) { r.Number() }, func(r *xdr.Reader) { r.Great() }, func(r *xdr.Reader) { r.Truth() }, func(r *xdr.Reader) { r.Bytes(0) }, func(r *xdr.Reader) { r.Bytes(-1) },
	} {
		r := xdr.NewReader(nil)
		ask(r)
		stuck(t, "of no bytes", r, api.ErrShort)
	}
}

// TestReaderSharesNothing changes what was handed in, and what was answered.
func TestReaderSharesNothing(t *testing.T) {
	b := laid(long(4), long(5), uint32(9))
	room := append(slices.Clone(b), long(20)...)
	was := bytes.Clone(room)
	r, other := xdr.NewReader(room[:len(b)]), xdr.NewReader(room[:len(b)])
	first := r.Bytes(9)
	if !bytes.Equal(room, was) {
		t.Errorf("bytes that were handed in became %x", room)
	}
	_ = append(first, 1, 2, 3, 4, 5, 6, 7, 8, 9)
	clear(first[:cap(first)])
	if !bytes.Equal(room, was) {
		t.Errorf("an answer shares memory with %x", room)
	}
	clear(room)
	if b := r.Bytes(9); !bytes.Equal(b, long(5)) || r.Number() != 9 || r.End() != api.OK {
		t.Errorf("Bytes = %x, End = %d", b, r.End())
	}
	if a, b := other.Bytes(9), other.Bytes(9); !bytes.Equal(a, long(4)) || !bytes.Equal(b, long(5)) || other.Number() != 9 || other.End() != api.OK {
		t.Errorf("Bytes = %x, %x, End = %d", a, b, other.End())
	}
}

// anyThing is a thing of a kind that is picked.
func anyThing(pick *rand.Rand) thing {
	switch n := pick.Uint64() >> pick.Intn(64); pick.Intn(4) {
	case 0:
		return uint32(n)
	case 1:
		return n
	case 2:
		return n%2 == 0
	}
	b := make([]byte, pick.Intn(20))
	pick.Read(b)
	return b
}

// TestLaidIsTold holds that what is laid is told, one behind the other; cut anywhere, it isn't.
func TestLaidIsTold(t *testing.T) {
	pick := rand.New(rand.NewSource(9))
	for range 300 {
		var l []thing
		for range pick.Intn(12) {
			l = append(l, anyThing(pick))
		}
		b := laid(l...)
		r := xdr.NewReader(b)
		for _, x := range l {
			if got := told(r, x); !like(got, x) || r.Error() != api.OK {
				t.Fatalf("%v is told as %v, %d", x, got, r.Error())
			}
		}
		is(t, "End", r.End(), api.OK)
		for n := range b {
			r := xdr.NewReader(b[:n])
			end := 0
			for _, x := range l {
				got := told(r, x)
				if end += len(plain(x)); end <= n && !like(got, x) {
					t.Fatalf("%v is told as %v, cut at %d", x, got, n)
				}
			}
			stuck(t, fmt.Sprintf("%v, cut at %d", l, n), r, api.ErrShort)
		}
	}
}

// model tells what stands at the beginning of b, in the way of x, and what is left, or the error; as the chapter says.
func model(b []byte, x thing, most int) (thing, []byte, api.Errno) {
	size := 4
	if _, is := x.(uint64); is {
		size = 8
	}
	if len(b) < size {
		return nil, nil, api.ErrShort
	}
	head, left := b[:size], b[size:]
	switch x.(type) {
	case uint64:
		return binary.BigEndian.Uint64(head), left, api.OK
	case bool:
		if n := binary.BigEndian.Uint32(head); n > 1 {
			return nil, nil, api.ErrForm
		}
		return head[3] == 1, left, api.OK
	case []byte:
		n := int(binary.BigEndian.Uint32(head))
		end := (n + 3) / 4 * 4
		switch {
		case n > max(most, 0):
			return nil, nil, api.ErrLimit
		case end > len(left):
			return nil, nil, api.ErrShort
		case !bytes.Equal(left[n:end], make([]byte, end-n)):
			return nil, nil, api.ErrForm
		}
		return left[:n], left[end:], api.OK
	}
	return binary.BigEndian.Uint32(head), left, api.OK
}

// TestAnyBytes asks for any things of any bytes, beside a plain model.
func TestAnyBytes(t *testing.T) {
	pick := rand.New(rand.NewSource(27))
	seen := map[api.Errno]int{}
	for range 20000 {
		b := make([]byte, pick.Intn(40))
		for i := range b {
			if i%4 == 3 || pick.Intn(12) == 0 {
				b[i] = byte(pick.Intn(5))
			}
		}
		r, left, failed := xdr.NewReader(b), b, api.OK
		for range 6 {
			x, most := anyThing(pick), pick.Intn(8)-1
			var want thing
			if failed == api.OK {
				want, left, failed = model(left, x, most)
			}
			var got thing
			if _, is := x.([]byte); is {
				got = r.Bytes(most)
			} else {
				got = told(r, x)
			}
			if r.Error() != failed || failed == api.OK && !like(got, want) {
				t.Fatalf("%T of %x: %v, %d; want %v, %d", x, b, got, r.Error(), want, failed)
			}
			end := failed
			if failed == api.OK && len(left) > 0 {
				end = api.ErrForm
			}
			is(t, "End", r.End(), end)
		}
		if seen[failed]++; failed != api.OK {
			stuck(t, fmt.Sprintf("%x", b), r, failed)
		}
	}
	for _, e := range []api.Errno{api.OK, api.ErrShort, api.ErrForm, api.ErrLimit} {
		if seen[e] < 50 {
			t.Errorf("error %d came %d times", e, seen[e])
		}
	}
}
