package back_test

import (
	"bytes"
	"encoding/binary"
	"encoding/hex"
	"fmt"
	"math"
	"math/rand"
	"reflect"
	"slices"
	"strings"
	"testing"
	"unicode/utf8"
	"unsafe"

	"wharfage/api"
	"wharfage/back"
)

// unhex tells the bytes of hexadecimal digits, blanks left out.
func unhex(text string) []byte {
	b, err := hex.DecodeString(strings.ReplaceAll(text, " ", ""))
	if err != nil {
		panic(err)
	}
	return b
}

// some is a reply that may be, whose numbers are all unlike.
func some() api.Back {
	return api.Back{
		Client: 3, Inc: 0x01020304, Seq: 0x05060708090a0b0c, Status: api.StExist, Boot: 0x0d0e0f10,
		Attr:   api.Attr{H: api.Handle{Ino: 0x11121314, Gen: 0x15161718}, Dir: true, Size: 0x0123, Change: 0x191a1b1c1d1e1f20},
		Before: 0x2122232425262728, Data: []byte{7, 8, 9, 10, 11, 12}, Names: []string{"abc", "b", "defgh"},
	}
}

// least is the reply that may be, and has the least.
func least() api.Back { return api.Back{Inc: 1, Seq: 1} }

// names are as many names, rising, each of so many bytes.
func names(many, size int) []string {
	var l []string
	for n := range many {
		s := fmt.Sprintf("%02d", n)
		l = append(l, s+strings.Repeat("n", size-len(s)))
	}
	return l
}

func word(n uint32) []byte { return binary.BigEndian.AppendUint32(nil, n) }

func great(n uint64) []byte { return binary.BigEndian.AppendUint64(nil, n) }

func padded(b []byte) []byte {
	return slices.Concat(word(uint32(len(b))), b, make([]byte, (4-len(b)%4)%4))
}

func listOf(l []string) []byte {
	b := word(uint32(len(l)))
	for _, s := range l {
		b = append(b, padded([]byte(s))...)
	}
	return b
}

// wide tells the bytes of a reply, of a client and a status that may be wider than its.
func wide(b api.Back, client, status uint32) []byte {
	dir := uint32(0)
	if b.Attr.Dir {
		dir = 1
	}
	return slices.Concat(
		word(client), word(b.Inc), great(b.Seq), word(status), word(b.Boot),
		word(b.Attr.H.Ino), word(b.Attr.H.Gen), word(dir), word(b.Attr.Size), great(b.Attr.Change),
		great(b.Before), padded(b.Data), listOf(b.Names))
}

// plain tells a reply's bytes as the chapter says, be it one or not.
func plain(b api.Back) []byte { return wide(b, uint32(b.Client), uint32(b.Status)) }

func isName(s string) bool {
	return len(s) >= 1 && len(s) <= 32 && s != "." && s != ".." && utf8.ValidString(s) && !strings.ContainsFunc(s, func(r rune) bool { return r < 32 || r == 127 || r == '/' })
}

// mayBe tells what the chapter says of a reply, field by field.
func mayBe(b api.Back) bool {
	if b.Client > 3 || b.Inc < 1 || b.Seq < 1 || b.Status > 9 || b.Attr.Size > 4096 || len(b.Data) > 64 || len(b.Names) > 32 {
		return false
	}
	for i, s := range b.Names {
		if !isName(s) || i > 0 && bytes.Compare([]byte(b.Names[i-1]), []byte(s)) >= 0 {
			return false
		}
	}
	return true
}

// like tells whether two replies have the same in each field, by the library's own comparing.
func like(a, b api.Back) bool {
	for _, x := range []*api.Back{&a, &b} {
		if len(x.Data) == 0 {
			x.Data = nil
		}
		if len(x.Names) == 0 {
			x.Names = nil
		}
	}
	return reflect.DeepEqual(a, b)
}

// clone tells a reply that shares no list with b.
func clone(b api.Back) api.Back {
	b.Data, b.Names = bytes.Clone(b.Data), slices.Clone(b.Names)
	return b
}

// may holds that a reply may be, and that its bytes are those of the chapter, and tell it.
func may(t *testing.T, b api.Back) {
	t.Helper()
	if !back.May(b) {
		t.Errorf("May(%+v) = false", b)
	}
	want := plain(b)
	if x, e := back.Put(b); !bytes.Equal(x, want) || e != api.OK {
		t.Errorf("Put(%+v) = %x, %d; want %x", b, x, e, want)
	}
	if got, e := back.Get(want); !like(got, b) || e != api.OK {
		t.Errorf("Get(%x) = %+v, %d; want %+v", want, got, e, b)
	}
}

// mayNot holds that a reply may not be, nor is put.
func mayNot(t *testing.T, b api.Back) {
	t.Helper()
	if back.May(b) {
		t.Errorf("May(%+v) = true", b)
	}
	if x, e := back.Put(b); len(x) > 0 || e != api.ErrArg {
		t.Errorf("Put(%+v) = %x, %d; want ErrArg", b, x, e)
	}
}

// fails holds that bytes tell no reply, but an error.
func fails(t *testing.T, x []byte, want api.Errno) {
	t.Helper()
	if b, e := back.Get(x); !like(b, api.Back{}) || e != want {
		t.Errorf("Get(%.200x) = %+v, %d; want %d", x, b, e, want)
	}
}

// TestExamples holds the chapter's table of examples, in its order.
func TestExamples(t *testing.T) {
	if x, e := back.Put(api.Back{}); len(x) > 0 || e != api.ErrArg {
		t.Errorf("Put(zero) = %x, %d", x, e)
	}
	x, e := back.Put(api.Back{Inc: 1, Seq: 1})
	if len(x) != 64 || e != api.OK {
		t.Fatalf("Put(Inc 1, Seq 1) = %x, %d", x, e)
	}
	fails(t, x[:63], api.ErrShort)
	if a, b := back.Errno(api.StExist), back.Errno(77); a != api.ErrTwice || b != api.ErrArg {
		t.Errorf("Errno: %d, %d", a, b)
	}
}

// TestBytes holds the bytes of replies, digit by digit.
func TestBytes(t *testing.T) {
	const head = "00000003 01020304 05060708090a0b0c 00000003 0d0e0f10 11121314 15161718 00000001 00000123 191a1b1c1d1e1f20 2122232425262728"
	file, bare := some(), some()
	file.Status, file.Attr.Dir, file.Names = api.StLoop, false, []string{"n"}
	bare.Data, bare.Names = nil, nil
	for _, c := range []struct {
		b    api.Back
		want string
	}{
		{some(), head + "00000006 0708090a 0b0c0000 00000003 00000003 61626300 00000001 62000000 00000005 64656667 68000000"},
		{file, "00000003 01020304 05060708090a0b0c 00000009 0d0e0f10 11121314 15161718 00000000 00000123 191a1b1c1d1e1f20 2122232425262728 00000006 0708090a 0b0c0000 00000001 00000001 6e000000"},
		{bare, head + "00000000 00000000"},
		{least(), "00000000 00000001 0000000000000001 00000000 00000000 00000000 00000000 00000000 00000000 0000000000000000 0000000000000000 00000000 00000000"},
	} {
		want := unhex(c.want)
		if x, e := back.Put(c.b); !bytes.Equal(x, want) || e != api.OK {
			t.Errorf("Put(%+v) = %x, %d; want %x", c.b, x, e, want)
		}
		if got, e := back.Get(want); !like(got, c.b) || e != api.OK {
			t.Errorf("Get(%x) = %+v, %d", want, got, e)
		}
	}
}

// TestMayHead goes through whose reply it is, and of which call.
func TestMayHead(t *testing.T) {
	for _, base := range []api.Back{least(), some()} {
		for n := range 256 {
			b := base
			if b.Client = uint8(n); n < 4 {
				may(t, b)
			} else {
				mayNot(t, b)
				fails(t, plain(b), api.ErrForm)
			}
			b = base
			if b.Status = uint8(n); n < 10 {
				may(t, b)
			} else {
				mayNot(t, b)
				fails(t, plain(b), api.ErrForm)
			}
		}
		b := base
		b.Inc = 0
		mayNot(t, b)
		fails(t, plain(b), api.ErrForm)
		b = base
		b.Seq = 0
		mayNot(t, b)
		fails(t, plain(b), api.ErrForm)
	}
}

// TestMayNumbers: of the numbers only the size has a limit.
func TestMayNumbers(t *testing.T) {
	for _, base := range []api.Back{least(), some()} {
		for _, n := range []uint64{1, 2, 63, 64, 255, 256, 4095, 4096, 4097, math.MaxUint16, 1 << 24, math.MaxInt32, 1 << 31, math.MaxUint32, 1 << 32, math.MaxInt64, 1 << 63, math.MaxUint64} {
			for _, set := range []func(*api.Back){
				func(b *api.Back) { b.Seq = n }, func(b *api.Back) { b.Before = n }, func(b *api.Back) { b.Attr.Change = n },
			} {
				b := base
				set(&b)
				may(t, b)
			}
			if n > math.MaxUint32 {
				continue
			}
			small := uint32(n)
			for _, set := range []func(*api.Back){
				func(b *api.Back) { b.Inc = small }, func(b *api.Back) { b.Boot = small }, func(b *api.Back) { b.Attr.H.Ino = small }, func(b *api.Back) { b.Attr.H.Gen = small },
			} {
				b := base
				set(&b)
				may(t, b)
			}
			b := base
			if b.Attr.Size = small; n <= 4096 {
				may(t, b)
			} else {
				mayNot(t, b)
				fails(t, plain(b), api.ErrForm)
			}
		}
		for _, set := range []func(*api.Back){
			func(b *api.Back) { b.Before = 0 }, func(b *api.Back) { b.Boot = 0 }, func(b *api.Back) { b.Attr.Size = 0 }, func(b *api.Back) { b.Attr.Change = 0 }, func(b *api.Back) { b.Attr = api.Attr{} }, func(b *api.Back) { b.Attr.Dir = !b.Attr.Dir },
		} {
			b := base
			set(&b)
			may(t, b)
		}
	}
}

// TestMayAll: what a status has beside it is not asked.
func TestMayAll(t *testing.T) {
	for status := range uint8(10) {
		b := some()
		b.Status = status
		may(t, b)
		b = least()
		b.Status = status
		may(t, b)
	}
}

// TestMayData has data of each length.
func TestMayData(t *testing.T) {
	for _, base := range []api.Back{least(), some()} {
		for n := range 200 {
			b := base
			b.Data = bytes.Repeat([]byte{byte(n), 0}, n)[:n]
			if n <= 64 {
				may(t, b)
			} else {
				mayNot(t, b)
				fails(t, plain(b), api.ErrForm)
			}
		}
		for n := range 256 {
			b := base
			b.Data = []byte{byte(n)}
			may(t, b)
		}
	}
	b := some()
	for _, none := range [][]byte{nil, {}} {
		b.Data = none
		may(t, b)
	}
	for _, n := range []int{4096, 4097, 1 << 14} {
		b.Data = make([]byte, n)
		mayNot(t, b)
	}
}

// TestMayNamesMany has names of each number.
func TestMayNamesMany(t *testing.T) {
	for n := range 80 {
		b := some()
		if b.Names = names(n, 2); n <= 32 {
			may(t, b)
		} else {
			mayNot(t, b)
			fails(t, plain(b), api.ErrLimit)
		}
	}
	b := some()
	for _, none := range [][]string{nil, {}} {
		b.Names = none
		may(t, b)
	}
	b.Names = make([]string, 1<<12)
	mayNot(t, b)
	// The greatest reply is below the limit of a message.
	b.Data, b.Names = make([]byte, 64), names(32, 32)
	may(t, b)
	if n := len(plain(b)); n != 64+64+32*36 {
		t.Errorf("the greatest reply has %d bytes", n)
	}
}

// TestMayNames: each name is one, wherever it stands.
func TestMayNames(t *testing.T) {
	longest := strings.Repeat("n", 32)
	for _, s := range []string{"a", " ", "...", ".a", "ab", "abc", "abcd", "abcde", longest, "\xc3\xa9", strings.Repeat("\xc3\xa9", 16), "\xef\xbf\xbd", "\xf4\x8f\xbf\xbf"} {
		b := some()
		b.Names = []string{s}
		may(t, b)
	}
	for _, s := range []string{"", ".", "..", "/", "a/b", "\x00", "a\x00", "\n", "\x1f", "\x7f", "\xff", "\xc3", longest + "n", strings.Repeat("\xc3\xa9", 17), "\xed\xa0\x80", strings.Repeat("n", 3000)} {
		for _, l := range [][]string{{s}, {"a", "b", s}, {s, "\xf0\x90\x80\x80"}, {" ", s, "\xf0\x90\x80\x80"}} {
			slices.Sort(l)
			b := some()
			b.Names = l
			mayNot(t, b)
			fails(t, plain(b), api.ErrForm)
		}
	}
}

// TestMayNamesRise: names rise by their bytes, and no two are alike.
func TestMayNamesRise(t *testing.T) {
	for _, l := range [][]string{
		{"a", "b"}, {"a", "aa"}, {"a", "a "}, {"B", "a"}, {"Z", "a", "z"}, {"10", "9"}, {"-", "a"}, {" ", "  ", "   "},
		{"z", "\xc3\xa9"}, {"a", "\xc3\xa4", "\xc3\xb6"}, {"e\xcc\x81", "\xc3\xa9"},
		// By their bytes, U+FFFD is ahead of U+10000, unlike by 16 bits.
		{"\xef\xbf\xbd", "\xf0\x90\x80\x80"}, {"\xed\x9f\xbf", "\xee\x80\x80"},
		{strings.Repeat("n", 31), strings.Repeat("n", 32)}, {strings.Repeat("n", 31) + "m", strings.Repeat("n", 31) + "n"},
	} {
		b := some()
		b.Names = l
		may(t, b)
		b.Names = slices.Clone(l)
		slices.Reverse(b.Names)
		mayNot(t, b)
		fails(t, plain(b), api.ErrForm)
		for i := range l {
			b.Names = slices.Insert(slices.Clone(l), i, l[i])
			mayNot(t, b)
			fails(t, plain(b), api.ErrForm)
		}
	}
	for _, l := range [][]string{{"a", "b", "a"}, {"a", "c", "b"}, {"b", "a", "c"}, {"c", "a", "b"}, {"a", "b", "c", "c"}, {"aa", "a"}, {"a", "B"}} {
		b := some()
		b.Names = l
		mayNot(t, b)
		fails(t, plain(b), api.ErrForm)
	}
	for at := range 31 {
		b := some()
		b.Names = names(32, 32)
		b.Names[at+1] = b.Names[at]
		mayNot(t, b)
		b.Names = names(32, 32)
		b.Names[at], b.Names[at+1] = b.Names[at+1], b.Names[at]
		mayNot(t, b)
		fails(t, plain(b), api.ErrForm)
	}
}

// TestGetCut cuts a reply's bytes at each place, and lays some behind them.
func TestGetCut(t *testing.T) {
	fails(t, nil, api.ErrShort)
	fails(t, []byte{}, api.ErrShort)
	full := some()
	full.Data, full.Names = make([]byte, 64), names(32, 31)
	for _, b := range []api.Back{least(), some(), full} {
		x := plain(b)
		for n := range x {
			// What stands behind the end is no part of it.
			fails(t, x[:n], api.ErrShort)
		}
		for _, n := range []int{1, 2, 3, 4, 8, 1000, api.MaxMessage - len(x)} {
			fails(t, append(bytes.Clone(x), make([]byte, n)...), api.ErrForm)
		}
		fails(t, append(bytes.Clone(x), x...), api.ErrForm)
		fails(t, append(bytes.Clone(x), 0xff), api.ErrForm)
	}
	// One name more than are told of, and one less.
	x := plain(some())
	at := len(x) - len(listOf(some().Names))
	copy(x[at:], word(2))
	fails(t, x, api.ErrForm)
	copy(x[at:], word(4))
	fails(t, x, api.ErrShort)
}

// TestGetLimit: what is longer than a message is not looked at.
func TestGetLimit(t *testing.T) {
	for _, b := range []api.Back{least(), some()} {
		x := plain(b)
		fails(t, append(bytes.Clone(x), make([]byte, 4096-len(x))...), api.ErrForm)
		fails(t, append(bytes.Clone(x), make([]byte, 4097-len(x))...), api.ErrLimit)
	}
	for _, n := range []int{4097, 4100, 5000, 1 << 16, 1 << 20} {
		fails(t, make([]byte, n), api.ErrLimit)
		fails(t, bytes.Repeat([]byte{0xff}, n), api.ErrLimit)
	}
	fails(t, make([]byte, 4096), api.ErrForm)
	// Its Dir is no truth.
	fails(t, bytes.Repeat([]byte{0xff}, 4096), api.ErrForm)
}

// TestGetWide: a client and a status that no byte holds are none, whatever their last bytes are.
func TestGetWide(t *testing.T) {
	for _, b := range []api.Back{least(), some()} {
		size := len(plain(b))
		for _, high := range []uint32{1 << 8, 1 << 9, 1 << 15, 1 << 16, 1 << 24, 1 << 31, 0xffffff00} {
			for low := range uint32(256) {
				fails(t, wide(b, high|low, 0), api.ErrForm)
				fails(t, wide(b, 0, high|low), api.ErrForm)
				fails(t, wide(b, high|low, high|low), api.ErrForm)
				// Both are looked at behind all that stands there.
				fails(t, wide(b, high|low, high|low)[:size-1], api.ErrShort)
				fails(t, wide(b, high|low, 0)[:4], api.ErrShort)
				fails(t, wide(b, 0, high|low)[:20], api.ErrShort)
			}
		}
	}
}

// TestGetOrder: which error is told, where more than one applies.
func TestGetOrder(t *testing.T) {
	const (
		good  = "00000000 00000001 0000000000000001 00000000 00000000"
		bad   = "00000100 00000000 0000000000000000 ffffffff 00000000"
		attr  = "00000001 00000001 00000001 00000000 0000000000000001 0000000000000000"
		large = "00000001 00000001 00000001 00001001 0000000000000001 0000000000000000"
		wrong = "00000001 00000001 00000002"
		none  = "00000000"
	)
	a33, a65, a3960 := strings.Repeat("61", 33)+"000000", strings.Repeat("61", 65)+"000000", strings.Repeat("61", 3960)
	for _, c := range []struct {
		x    string
		want api.Errno
	}{
		// Numbers that may not be are looked at behind all that stands there.
		{bad + attr + none + "000000", api.ErrShort}, {bad + attr + none + none, api.ErrForm}, {good + large + none + "000000", api.ErrShort}, {good + large + none + none, api.ErrForm},
		{bad + large + none + "00000021", api.ErrLimit}, {bad + large + "00001001", api.ErrLimit}, {bad + large + none + none + "00", api.ErrForm},
		// A truth, ahead of what is behind it.
		{good + wrong, api.ErrForm}, {bad + wrong, api.ErrForm}, {good + wrong + "000000", api.ErrForm}, {good + "00000001 00000001 000002", api.ErrShort},
		{good + wrong + "00000000 0000000000000001 0000000000000000 00001001", api.ErrForm}, {good + wrong + "00000000 0000000000000001 0000000000000000 00000000 00000021", api.ErrForm},
		// Data: how many bytes there are, ahead of whether they are there, ahead of their padding, ahead of the names.
		{good + attr + "00001001", api.ErrLimit}, {good + attr + "ffffffff", api.ErrLimit}, {good + attr + "00001000", api.ErrShort}, {good + attr + "00000041", api.ErrShort},
		{good + attr + "00000001 0701", api.ErrShort}, {good + attr + "00000001 07010000", api.ErrForm}, {good + attr + "00000001 07010000 00000021", api.ErrForm}, {good + attr + "00000001 07000000 00000021", api.ErrLimit},
		{good + attr + "00000041" + a65 + "000000", api.ErrShort}, {good + attr + "00000041" + a65 + none, api.ErrForm}, {good + attr + "00000041" + a65 + "00000021", api.ErrLimit}, {good + attr + "00000f78" + a3960 + none, api.ErrForm},
		// How many names there are, ahead of whether they are there.
		{good + attr + none + "00000020", api.ErrShort}, {good + attr + none + "00000021", api.ErrLimit}, {good + attr + none + "ffffffff", api.ErrLimit}, {good + attr + none + "80000000", api.ErrLimit}, {good + attr + none + "00000100", api.ErrLimit}, {good + attr + none + "00000021 00001001", api.ErrLimit},
		{good + attr + none + "00000021" + "00000001 61000001", api.ErrLimit}, {good + attr + none + "00000001", api.ErrShort}, {good + attr + none + "00000002" + "00000001 61000000", api.ErrShort},
		// Names, from the left.
		{good + attr + none + "00000001 00001001", api.ErrLimit}, {good + attr + none + "00000001 ffffffff", api.ErrLimit}, {good + attr + none + "00000001 00001000", api.ErrShort}, {good + attr + none + "00000001 00000021", api.ErrShort},
		{good + attr + none + "00000001 00000001 6101", api.ErrShort}, {good + attr + none + "00000001 00000001 61010000", api.ErrForm}, {good + attr + none + "00000002 00000001 61010000 00001001", api.ErrForm}, {good + attr + none + "00000002 00000001 61010000", api.ErrForm},
		{good + attr + none + "00000002 00001001 00000001 61010000", api.ErrLimit}, {good + attr + none + "00000002 00000001 61000000 00001001", api.ErrLimit}, {good + attr + none + "00000002 00000001 61000000 00000001 62000001", api.ErrForm},
		// What is no name, and what doesn't rise, behind all that stands there.
		{good + attr + none + "00000002 00000001 2f000000 00001001", api.ErrLimit}, {good + attr + none + "00000002 00000001 2f000000 0000", api.ErrShort}, {good + attr + none + "00000001 00000021" + a33, api.ErrForm}, {good + attr + none + "00000002 00000021" + a33, api.ErrShort},
		{good + attr + none + "00000003 00000001 62000000 00000001 61000000 00001001", api.ErrLimit}, {good + attr + none + "00000003 00000001 62000000 00000001 61000000", api.ErrShort}, {good + attr + none + "00000001 00000000", api.ErrForm}, {good + attr + none + "00000002 00000000", api.ErrShort},
		// Bytes that are left.
		{good + attr + none + none + "00", api.ErrForm}, {good + attr + none + none + none, api.ErrForm}, {good + attr + none + "00000001 00000001 61000000 00000001 62000000", api.ErrForm},
		{good + attr + none + none, api.OK}, {good + attr + "00000001 07000000" + none, api.OK}, {good + attr + none + "00000002 00000001 61000000 00000001 62000000", api.OK}, {good + attr + "00000001 07000000" + "00000001 00000004 61626364", api.OK},
	} {
		x := unhex(c.x)
		if c.want != api.OK {
			fails(t, x, c.want)
		} else if got, e := back.Get(x); e != api.OK || !bytes.Equal(plain(got), x) {
			t.Errorf("Get(%x) = %+v, %d", x, got, e)
		}
	}
}

// TestSame changes one field at a time, of replies that may be, and of such as may not.
func TestSame(t *testing.T) {
	changes := []func(*api.Back){
		func(b *api.Back) { b.Client++ }, func(b *api.Back) { b.Inc++ }, func(b *api.Back) { b.Inc += 1 << 31 }, func(b *api.Back) { b.Seq++ }, func(b *api.Back) { b.Seq += 1 << 32 }, func(b *api.Back) { b.Seq += 1 << 63 }, func(b *api.Back) { b.Status++ }, func(b *api.Back) { b.Boot++ },
		func(b *api.Back) { b.Attr.H.Ino++ }, func(b *api.Back) { b.Attr.H.Gen++ }, func(b *api.Back) { b.Attr.Dir = !b.Attr.Dir }, func(b *api.Back) { b.Attr.Size++ }, func(b *api.Back) { b.Attr.Change++ }, func(b *api.Back) { b.Attr.Change += 1 << 32 }, func(b *api.Back) { b.Before++ }, func(b *api.Back) { b.Before += 1 << 63 },
		func(b *api.Back) { b.Attr.Change, b.Before = 40, 41 }, func(b *api.Back) { b.Attr.Change, b.Before = 41, 40 }, func(b *api.Back) { b.Attr.H = api.Handle{Ino: 5, Gen: 6} }, func(b *api.Back) { b.Attr.H = api.Handle{Ino: 6, Gen: 5} },
		func(b *api.Back) { b.Data = append(b.Data, 0) }, func(b *api.Back) { b.Data = nil }, func(b *api.Back) { b.Data = []byte{} },
		func(b *api.Back) { b.Names = append(b.Names, "x") }, func(b *api.Back) { b.Names = append(b.Names, "") }, func(b *api.Back) { b.Names = nil }, func(b *api.Back) { b.Names = []string{} }, func(b *api.Back) { b.Names = []string{"xy", "z"} }, func(b *api.Back) { b.Names = []string{"x", "yz"} }, func(b *api.Back) { b.Names = []string{"yz", "x"} }, func(b *api.Back) { b.Names = []string{"xyz"} },
	}
	bases := []api.Back{{}, {Data: []byte{}}, {Names: []string{}}, least(), some(), {Client: 255, Inc: math.MaxUint32, Seq: math.MaxUint64, Status: 255, Data: make([]byte, 100), Names: []string{"b", "a", "", "\xff"}}}
	for _, base := range bases {
		l := []api.Back{base, clone(base)}
		for _, change := range changes {
			b := clone(base)
			change(&b)
			l = append(l, b)
		}
		for _, a := range l {
			for _, b := range l {
				if got := back.Same(a, b); got != like(a, b) {
					t.Errorf("Same(%+v, %+v) = %t", a, b, got)
				}
			}
		}
	}
	for i := range 6 {
		a, b := some(), some()
		if b.Data[i]++; back.Same(a, b) {
			t.Errorf("Same, but for the byte %d", i)
		}
	}
	for i := range 3 {
		a, b := some(), some()
		if b.Names[i] += "a"; back.Same(a, b) {
			t.Errorf("Same, but for the name %d", i)
		}
	}
	if !back.Same(api.Back{}, api.Back{Data: []byte{}, Names: []string{}}) || !back.Same(api.Back{Data: []byte{}, Names: []string{}}, api.Back{}) {
		t.Error("lists without elements, and none, are not the same")
	}
}

// TestErrno goes through all numbers of statuses.
func TestErrno(t *testing.T) {
	for _, c := range []struct {
		status uint8
		want   api.Errno
	}{
		{api.StOK, api.OK}, {api.StStale, api.ErrStale}, {api.StNone, api.ErrNone}, {api.StExist, api.ErrTwice}, {api.StNotDir, api.ErrDir}, {api.StIsDir, api.ErrDir}, {api.StNotEmpty, api.ErrUsed}, {api.StSpace, api.ErrFull}, {api.StArg, api.ErrArg}, {api.StLoop, api.ErrArg},
	} {
		if e := back.Errno(c.status); e != c.want {
			t.Errorf("Errno(%d) = %d; want %d", c.status, e, c.want)
		}
	}
	for status := api.StLoop + 1; status < 256; status++ {
		if e := back.Errno(uint8(status)); e != api.ErrArg {
			t.Errorf("Errno(%d) = %d", status, e)
		}
	}
}

// TestArgumentsStay: what is handed in stays, and the room behind it.
func TestArgumentsStay(t *testing.T) {
	room := bytes.Repeat([]byte{9}, 100)
	rising, falling := names(20, 5), names(20, 5)
	slices.Reverse(falling)
	for _, l := range [][]string{rising, falling} {
		was := slices.Clone(l)
		b := some()
		b.Data, b.Names = room[:5], l[:5]
		back.Put(b)
		back.May(b)
		back.Same(b, b)
		if !bytes.Equal(room, bytes.Repeat([]byte{9}, 100)) || !slices.Equal(l, was) {
			t.Errorf("lists that were handed in became %x, %q", room, l)
		}
	}
	for _, b := range []api.Back{least(), some()} {
		x := append(plain(b), room...)
		was := bytes.Clone(x)
		if back.Get(x[:len(x)-len(room)]); !bytes.Equal(x, was) {
			t.Errorf("bytes that were handed in became %x", x)
		}
	}
}

// sharesMemory tells whether a text has bytes in common with bytes.
func sharesMemory(s string, b []byte) bool {
	x, y := uintptr(unsafe.Pointer(unsafe.StringData(s))), uintptr(unsafe.Pointer(unsafe.SliceData(b)))
	return x < y+uintptr(cap(b)) && y < x+uintptr(len(s))
}

// TestAnswersAreNewMemory changes what was handed in, and what was answered.
func TestAnswersAreNewMemory(t *testing.T) {
	b := some()
	first, _ := back.Put(b)
	second, _ := back.Put(b)
	clear(first[:cap(first)])
	clear(b.Data)
	clear(b.Names)
	if !bytes.Equal(second, plain(some())) {
		t.Errorf("an answer follows another one, or what was handed in: %x", second)
	}
	x, _ := back.Get(second)
	y, _ := back.Get(second)
	for _, s := range x.Names {
		if sharesMemory(s, second) {
			t.Errorf("the name %q is a piece of what was handed in", s)
		}
	}
	_, _ = append(x.Data, 1, 2, 3), append(x.Names, "x", "y")
	clear(x.Data[:cap(x.Data)])
	clear(x.Names[:cap(x.Names)])
	if !bytes.Equal(second, plain(some())) {
		t.Errorf("an answer shares memory with what was handed in: %x", second)
	}
	clear(second)
	if !like(y, some()) {
		t.Errorf("an answer follows another one, or what was handed in: %+v", y)
	}
}

// reading reads bytes from the left, as the chapter says; its first error stays.
type reading struct {
	b []byte
	e api.Errno
}

func (r *reading) fail(is bool, e api.Errno) {
	if r.e == api.OK && is {
		r.e = e
	}
}

func (r *reading) take(n int) []byte {
	r.fail(len(r.b) < n, api.ErrShort)
	if r.e != api.OK {
		return make([]byte, n)
	}
	b := r.b[:n]
	r.b = r.b[n:]
	return b
}

func (r *reading) word() uint32 { return binary.BigEndian.Uint32(r.take(4)) }

func (r *reading) great() uint64 { return binary.BigEndian.Uint64(r.take(8)) }

func (r *reading) some() []byte {
	n := r.word()
	r.fail(n > 4096, api.ErrLimit)
	if r.e != api.OK {
		return nil
	}
	b := r.take((int(n) + 3) / 4 * 4)
	r.fail(strings.Trim(string(b[n:]), "\x00") != "", api.ErrForm)
	return bytes.Clone(b[:n])
}

// model tells the reply of bytes, or the error, as the chapter says.
func model(x []byte) (api.Back, api.Errno) {
	if len(x) > 4096 {
		return api.Back{}, api.ErrLimit
	}
	r := &reading{b: x}
	client, inc, seq, status, boot := r.word(), r.word(), r.great(), r.word(), r.word()
	ino, gen, dir := r.word(), r.word(), r.word()
	r.fail(dir > 1, api.ErrForm)
	size, change, before, data := r.word(), r.great(), r.great(), r.some()
	many := r.word()
	r.fail(many > 32, api.ErrLimit)
	var l []string
	for r.e == api.OK && len(l) < int(many) {
		l = append(l, string(r.some()))
	}
	b := api.Back{Client: uint8(client), Inc: inc, Seq: seq, Status: uint8(status), Boot: boot, Attr: api.Attr{H: api.Handle{Ino: ino, Gen: gen}, Dir: dir == 1, Size: size, Change: change}, Before: before, Data: data, Names: l}
	r.fail(len(r.b) > 0 || client > 255 || status > 255 || !mayBe(b), api.ErrForm)
	if r.e != api.OK {
		return api.Back{}, r.e
	}
	return b, api.OK
}

// beside holds that bytes tell what the model says, and that a reply that they tell is put as the same.
func beside(t *testing.T, x []byte) api.Errno {
	t.Helper()
	want, e := model(x)
	got, f := back.Get(x)
	if e != f || !like(got, want) {
		t.Fatalf("Get(%x) = %+v, %d; want %+v, %d", x, got, f, want, e)
	}
	if e != api.OK {
		return e
	}
	if again, e := back.Put(got); !bytes.Equal(again, x) || e != api.OK || !back.May(got) {
		t.Fatalf("Put(Get(%x)) = %x, %d", x, again, e)
	}
	return e
}

// TestEachByteChanged lays each value at each place of a reply's bytes.
func TestEachByteChanged(t *testing.T) {
	for _, b := range []api.Back{least(), some()} {
		x := plain(b)
		for at := range x {
			was := x[at]
			for n := range 256 {
				x[at] = byte(n)
				beside(t, x)
			}
			x[at] = was
		}
	}
}

// anyNames are names that rise mostly.
func anyNames(pick *rand.Rand) []string {
	l := make([]string, 0, 40)
	for range pick.Intn(8) * pick.Intn(6) {
		l = append(l, strings.Repeat(string(rune('a'+pick.Intn(26))), 1+pick.Intn(32)))
	}
	if pick.Intn(6) == 0 {
		l = append(l, []string{"", ".", "..", "a/b", "\xff", "\x00", "\xc3\xa9", strings.Repeat("n", 33)}[pick.Intn(8)])
	}
	slices.Sort(l)
	if pick.Intn(8) > 0 {
		l = slices.Compact(l)
	}
	if pick.Intn(8) == 0 {
		pick.Shuffle(len(l), func(i, j int) { l[i], l[j] = l[j], l[i] })
	}
	return l
}

// anyBack is a reply that may be mostly.
func anyBack(pick *rand.Rand) api.Back {
	number := func(most int) uint32 { return uint32(pick.Intn(most + most/16 + 1)) }
	b := api.Back{
		Client: uint8(pick.Intn(4)), Inc: 1 + number(9), Seq: pick.Uint64()>>pick.Intn(64) | 1, Status: uint8(pick.Intn(10)), Boot: pick.Uint32(),
		Attr:   api.Attr{H: api.Handle{Ino: pick.Uint32(), Gen: pick.Uint32()}, Dir: pick.Intn(2) == 0, Size: number(4096), Change: pick.Uint64()},
		Before: pick.Uint64() >> pick.Intn(64), Data: make([]byte, number(64)), Names: anyNames(pick),
	}
	pick.Read(b.Data)
	switch pick.Intn(20) {
	case 0:
		b.Client = uint8(pick.Intn(256))
	case 1:
		b.Inc = 0
	case 2:
		b.Seq = 0
	case 3:
		b.Status = uint8(pick.Intn(256))
	}
	return b
}

// TestPutIsGot puts any replies, beside the plain words of the chapter.
func TestPutIsGot(t *testing.T) {
	pick := rand.New(rand.NewSource(11))
	good, wrong := 0, 0
	for range 20000 {
		b := anyBack(pick)
		if !mayBe(b) {
			wrong++
			mayNot(t, b)
			beside(t, plain(b))
			continue
		}
		good++
		may(t, b)
		x, _ := back.Put(b)
		if got, e := back.Get(x); !back.Same(got, b) || e != api.OK {
			t.Fatalf("Get(Put(%+v)) = %+v, %d", b, got, e)
		}
	}
	if good < 2000 || wrong < 2000 {
		t.Errorf("%d may be, %d may not", good, wrong)
	}
}

// TestAnyBytes gets replies of bytes that are cut, lengthened and changed, beside a plain model.
func TestAnyBytes(t *testing.T) {
	pick := rand.New(rand.NewSource(34))
	seen := map[api.Errno]int{}
	for range 40000 {
		x := plain(anyBack(pick))
		switch pick.Intn(5) {
		case 0:
			x = x[:pick.Intn(len(x))]
		case 1:
			x = append(x, make([]byte, pick.Intn(5))...)
		case 2:
			x[pick.Intn(len(x))] ^= 1 << pick.Intn(8)
		case 3:
			at := 4 * pick.Intn(len(x)/4)
			copy(x[at:], word(uint32(pick.Uint64()>>pick.Intn(64))))
			x = x[:len(x)-pick.Intn(2)*pick.Intn(9)]
		}
		seen[beside(t, x)]++
	}
	for _, e := range []api.Errno{api.OK, api.ErrShort, api.ErrForm, api.ErrLimit} {
		if seen[e] < 100 {
			t.Errorf("error %d came %d times", e, seen[e])
		}
	}
}
