package call_test

import (
	"bytes"
	"encoding/binary"
	"encoding/hex"
	"fmt"
	"math"
	"math/rand"
	"reflect"
	"slices"
	"strings"
	"testing"
	"unicode/utf8"
	"unsafe"

	"wharfage/api"
	"wharfage/call"
)

// rowOf is the chapter's row of a kind, a letter a field: H, Off, Size, Name, To, M of ToName, Data. None of what is no kind.
func rowOf(kind uint8) string {
	switch kind {
	case api.DoGetattr:
		return "H"
	case api.DoSetSize:
		return "HS"
	case api.DoLookup:
		return "HN"
	case api.DoRead:
		return "HOS"
	case api.DoWrite:
		return "HOD"
	case api.DoCommit:
		return "H"
	case api.DoCreate:
		return "HN"
	case api.DoMkdir:
		return "HN"
	case api.DoRemove:
		return "HN"
	case api.DoRmdir:
		return "HN"
	case api.DoRename:
		return "HNTM"
	case api.DoReaddir:
		return "H"
	}
	return ""
}

// kinds are all that are one.
func kinds() []uint8 {
	var l []uint8
	for kind := range 256 {
		if rowOf(uint8(kind)) != "" {
			l = append(l, uint8(kind))
		}
	}
	return l
}

// unhex tells the bytes of hexadecimal digits, blanks left out.
func unhex(text string) []byte {
	b, err := hex.DecodeString(strings.ReplaceAll(text, " ", ""))
	if err != nil {
		panic(err)
	}
	return b
}

// of is a call of a kind that may be, whose numbers are all unlike.
func of(kind uint8) api.Call {
	c := api.Call{Client: 3, Inc: 0x01020304, Seq: 0x05060708090a0b0c, Kind: kind, H: api.Handle{Ino: 0x11121314, Gen: 0x15161718}}
	for _, f := range rowOf(kind) {
		switch f {
		case 'O':
			c.Off = 0x0123
		case 'S':
			c.Size = 0x21
		case 'N':
			c.Name = "abc"
		case 'T':
			c.To = api.Handle{Ino: 0x31323334, Gen: 0x35363738}
		case 'M':
			c.ToName = "defgh"
		case 'D':
			c.Data = []byte{7, 8, 9, 10, 11, 12}
		}
	}
	return c
}

func word(n uint32) []byte { return binary.BigEndian.AppendUint32(nil, n) }

func padded(b []byte) []byte {
	return slices.Concat(word(uint32(len(b))), b, make([]byte, (4-len(b)%4)%4))
}

// fieldOf tells the bytes of the field that a letter stands for.
func fieldOf(c api.Call, f rune) []byte {
	switch f {
	case 'H':
		return append(word(c.H.Ino), word(c.H.Gen)...)
	case 'O':
		return word(c.Off)
	case 'S':
		return word(c.Size)
	case 'N':
		return padded([]byte(c.Name))
	case 'T':
		return append(word(c.To.Ino), word(c.To.Gen)...)
	case 'M':
		return padded([]byte(c.ToName))
	}
	return padded(c.Data)
}

// headOf tells the bytes that stand ahead of the fields of a call, of numbers that may be wider than a call's.
func headOf(client, inc uint32, seq uint64, kind uint32) []byte {
	return slices.Concat(word(client), word(inc), binary.BigEndian.AppendUint64(nil, seq), word(kind))
}

// plain tells a call's bytes as the chapter says, be it one or not.
func plain(c api.Call) []byte {
	b := headOf(uint32(c.Client), c.Inc, c.Seq, uint32(c.Kind))
	for _, f := range rowOf(c.Kind) {
		b = append(b, fieldOf(c, f)...)
	}
	return b
}

func isName(s string) bool {
	return len(s) >= 1 && len(s) <= 32 && s != "." && s != ".." && utf8.ValidString(s) && !strings.ContainsFunc(s, func(r rune) bool { return r < 32 || r == 127 || r == '/' })
}

// mayBe tells what the chapter says of a call, field by field.
func mayBe(c api.Call) bool {
	row := rowOf(c.Kind)
	if row == "" || c.Client > 3 || c.Inc < 1 || c.Seq < 1 {
		return false
	}
	has := func(f string) bool { return strings.Contains(row, f) }
	mostOff, mostSize := uint32(4096), uint32(4096)
	if has("D") {
		mostOff = 4032
	}
	if has("O") {
		mostSize = 64
	}
	return (has("O") && c.Off <= mostOff || c.Off == 0) &&
		(has("S") && c.Size <= mostSize || c.Size == 0) &&
		(has("N") && isName(c.Name) || !has("N") && c.Name == "") &&
		(has("T") || c.To == api.Handle{}) &&
		(has("M") && isName(c.ToName) || !has("M") && c.ToName == "") &&
		(has("D") && len(c.Data) >= 1 && len(c.Data) <= 64 || !has("D") && len(c.Data) == 0)
}

// like tells whether two calls have the same in each field, by the library's own comparing.
func like(a, b api.Call) bool {
	if len(a.Data) == 0 && len(b.Data) == 0 {
		a.Data, b.Data = nil, nil
	}
	return reflect.DeepEqual(a, b)
}

// clone tells a call that shares no bytes with c.
func clone(c api.Call) api.Call {
	c.Data = bytes.Clone(c.Data)
	return c
}

// may holds that a call may be, and that its bytes are those of the chapter, and tell it.
func may(t *testing.T, c api.Call) {
	t.Helper()
	if !call.May(c) {
		t.Errorf("May(%+v) = false", c)
	}
	b, e := call.Put(c)
	if !bytes.Equal(b, plain(c)) || e != api.OK {
		t.Errorf("Put(%+v) = %x, %d; want %x", c, b, e, plain(c))
	}
	if got, e := call.Get(plain(c)); !like(got, c) || e != api.OK {
		t.Errorf("Get(%x) = %+v, %d; want %+v", plain(c), got, e, c)
	}
}

// mayNot holds that a call may not be, nor is put.
func mayNot(t *testing.T, c api.Call) {
	t.Helper()
	if call.May(c) {
		t.Errorf("May(%+v) = true", c)
	}
	if b, e := call.Put(c); len(b) > 0 || e != api.ErrArg {
		t.Errorf("Put(%+v) = %x, %d; want ErrArg", c, b, e)
	}
}

// fails holds that bytes tell no call, but an error.
func fails(t *testing.T, b []byte, want api.Errno) {
	t.Helper()
	if c, e := call.Get(b); !like(c, api.Call{}) || e != want {
		t.Errorf("Get(%.200x) = %+v, %d; want %d", b, c, e, want)
	}
}

// TestExamples holds the chapter's table of examples, in its order.
func TestExamples(t *testing.T) {
	if b, e := call.Put(api.Call{}); len(b) > 0 || e != api.ErrArg {
		t.Errorf("Put(zero) = %x, %d", b, e)
	}
	b, e := call.Put(api.Call{Inc: 1, Seq: 1, Kind: api.DoGetattr, H: api.Handle{Ino: 1, Gen: 1}})
	if len(b) != 28 || e != api.OK {
		t.Fatalf("Put(DoGetattr) = %x, %d", b, e)
	}
	fails(t, b[:27], api.ErrShort)
	if !call.Changes(api.DoCommit) || call.Changes(api.DoRead) {
		t.Errorf("Changes: %t, %t", call.Changes(api.DoCommit), call.Changes(api.DoRead))
	}
}

// TestBytes holds the bytes of each kind, digit by digit.
func TestBytes(t *testing.T) {
	const head, h = "00000003 01020304 05060708090a0b0c", "11121314 15161718"
	for _, c := range []struct {
		kind uint8
		want string
	}{
		{api.DoGetattr, "00000001" + h},
		{api.DoSetSize, "00000002" + h + "00000021"},
		{api.DoLookup, "00000003" + h + "00000003 61626300"},
		{api.DoRead, "00000004" + h + "00000123 00000021"},
		{api.DoWrite, "00000005" + h + "00000123 00000006 0708090a 0b0c0000"},
		{api.DoCommit, "00000006" + h},
		{api.DoCreate, "00000007" + h + "00000003 61626300"},
		{api.DoMkdir, "00000008" + h + "00000003 61626300"},
		{api.DoRemove, "00000009" + h + "00000003 61626300"},
		{api.DoRmdir, "0000000a" + h + "00000003 61626300"},
		{api.DoRename, "0000000b" + h + "00000003 61626300 31323334 35363738 00000005 64656667 68000000"},
		{api.DoReaddir, "0000000c" + h},
	} {
		want := unhex(head + c.want)
		if b, e := call.Put(of(c.kind)); !bytes.Equal(b, want) || e != api.OK {
			t.Errorf("Put of the kind %d = %x, %d; want %x", c.kind, b, e, want)
		}
		if got, e := call.Get(want); !like(got, of(c.kind)) || e != api.OK {
			t.Errorf("Get(%x) = %+v, %d", want, got, e)
		}
	}
}

// TestMayHead goes through who calls, and what for.
func TestMayHead(t *testing.T) {
	for _, kind := range kinds() {
		for client := range 256 {
			c := of(kind)
			if c.Client = uint8(client); client < 4 {
				may(t, c)
			} else {
				mayNot(t, c)
			}
		}
		for _, n := range []uint64{1, 2, 255, 256, math.MaxUint16, math.MaxInt32, 1 << 31, math.MaxUint32, 1 << 32, math.MaxInt64, 1 << 63, math.MaxUint64} {
			c := of(kind)
			c.Seq = n
			may(t, c)
			if n <= math.MaxUint32 {
				c.Inc = uint32(n)
				may(t, c)
			}
		}
		c := of(kind)
		c.Inc = 0
		mayNot(t, c)
		c = of(kind)
		c.Seq = 0
		mayNot(t, c)
	}
	for kind := range 256 {
		if c := of(uint8(kind)); rowOf(uint8(kind)) == "" {
			mayNot(t, c)
			c.H = api.Handle{}
			mayNot(t, c)
		} else {
			may(t, c)
		}
	}
}

// TestMayNamesAll: a field that the kind's row doesn't name is zero.
func TestMayNamesAll(t *testing.T) {
	for _, kind := range kinds() {
		for _, c := range []struct {
			field string
			set   func(*api.Call)
		}{
			{"O", func(c *api.Call) { c.Off = 1 }}, {"O", func(c *api.Call) { c.Off = 4032 }}, {"O", func(c *api.Call) { c.Off = 1 << 31 }},
			{"S", func(c *api.Call) { c.Size = 1 }}, {"S", func(c *api.Call) { c.Size = 64 }}, {"S", func(c *api.Call) { c.Size = math.MaxUint32 }},
			{"N", func(c *api.Call) { c.Name = "a" }}, {"N", func(c *api.Call) { c.Name = "\x00" }},
			{"T", func(c *api.Call) { c.To.Ino = 1 }}, {"T", func(c *api.Call) { c.To.Gen = 1 }}, {"T", func(c *api.Call) { c.To = c.H }},
			{"M", func(c *api.Call) { c.ToName = "a" }}, {"M", func(c *api.Call) { c.ToName = ".." }},
			{"D", func(c *api.Call) { c.Data = []byte{0} }}, {"D", func(c *api.Call) { c.Data = make([]byte, 64) }},
		} {
			x := of(kind)
			if c.set(&x); !strings.Contains(rowOf(kind), c.field) {
				mayNot(t, x)
			}
		}
		for _, none := range [][]byte{nil, {}} {
			if x := of(kind); len(x.Data) == 0 {
				x.Data = none
				may(t, x)
			}
		}
	}
}

// TestMayHandles: any handle may be, one of no file too.
func TestMayHandles(t *testing.T) {
	for _, kind := range kinds() {
		for _, h := range []api.Handle{{}, {Ino: 1}, {Gen: 1}, {Ino: 1 << 31, Gen: 5}, {Ino: math.MaxUint32, Gen: math.MaxUint32}} {
			c := of(kind)
			c.H = h
			may(t, c)
			if kind == api.DoRename {
				c.To = h
				may(t, c)
				c.H, c.ToName = of(kind).H, c.Name
				may(t, c)
			}
		}
	}
}

// TestMayNumbers goes through each Off and Size around their limits.
func TestMayNumbers(t *testing.T) {
	l := []uint32{0, 1, 63, 64, 65, 128, 4031, 4032, 4033, 4095, 4096, 4097, 1 << 16, 1 << 24, math.MaxInt32, 1 << 31, 1<<31 + 1, math.MaxUint32 - 63, math.MaxUint32}
	for _, n := range l {
		for _, c := range []struct {
			kind uint8
			set  func(*api.Call)
			most uint32
		}{
			{api.DoSetSize, func(c *api.Call) { c.Size = n }, 4096},
			{api.DoRead, func(c *api.Call) { c.Off = n }, 4096},
			{api.DoRead, func(c *api.Call) { c.Off, c.Size = n, 64 }, 4096},
			{api.DoRead, func(c *api.Call) { c.Size = n }, 64},
			{api.DoRead, func(c *api.Call) { c.Off, c.Size = 4096, n }, 64},
			{api.DoWrite, func(c *api.Call) { c.Off = n }, 4032},
			{api.DoWrite, func(c *api.Call) { c.Off, c.Data = n, make([]byte, 64) }, 4032},
			{api.DoWrite, func(c *api.Call) { c.Off, c.Data = n, []byte{1} }, 4032},
		} {
			x := of(c.kind)
			if c.set(&x); n <= c.most {
				may(t, x)
			} else {
				mayNot(t, x)
				fails(t, plain(x), api.ErrForm)
			}
		}
	}
}

// TestMayData writes of each length.
func TestMayData(t *testing.T) {
	for n := range 200 {
		c := of(api.DoWrite)
		c.Data = bytes.Repeat([]byte{byte(n), 0}, n)[:n]
		if n >= 1 && n <= 64 {
			may(t, c)
		} else {
			mayNot(t, c)
			fails(t, plain(c), api.ErrForm)
		}
	}
	c := of(api.DoWrite)
	for _, b := range [][]byte{nil, {}, make([]byte, 4096), make([]byte, 1<<20)} {
		c.Data = b
		mayNot(t, c)
	}
	for n := range 256 {
		c.Data = []byte{byte(n)}
		may(t, c)
	}
}

// TestMayNames: each name of a call is one.
func TestMayNames(t *testing.T) {
	longest := strings.Repeat("n", 32)
	for _, kind := range kinds() {
		for _, c := range []struct {
			field string
			set   func(*api.Call, string)
		}{{"N", func(c *api.Call, s string) { c.Name = s }}, {"M", func(c *api.Call, s string) { c.ToName = s }}} {
			if !strings.Contains(rowOf(kind), c.field) {
				continue
			}
			for _, s := range []string{"a", " ", "...", ".a", "ab", "abc", "abcd", "abcde", longest, "\xc3\xa9", strings.Repeat("\xc3\xa9", 16), "\xef\xbf\xbd"} {
				x := of(kind)
				c.set(&x, s)
				may(t, x)
			}
			for _, s := range []string{"", ".", "..", "/", "a/b", "\x00", "a\x00", "\n", "\x7f", "\xff", "\xc3", longest + "n", strings.Repeat("\xc3\xa9", 17), "\xed\xa0\x80", strings.Repeat("n", 3000)} {
				x := of(kind)
				c.set(&x, s)
				mayNot(t, x)
				fails(t, plain(x), api.ErrForm)
			}
		}
	}
	c := of(api.DoRename)
	c.Name, c.ToName = "", ""
	mayNot(t, c)
}

// TestGetCut cuts each kind's bytes at each place, and lays some behind them.
func TestGetCut(t *testing.T) {
	fails(t, nil, api.ErrShort)
	fails(t, []byte{}, api.ErrShort)
	for _, kind := range kinds() {
		b := plain(of(kind))
		for n := range b {
			// What stands behind the end is no part of it.
			fails(t, b[:n], api.ErrShort)
		}
		for _, n := range []int{1, 2, 3, 4, 8, 1000, api.MaxMessage - len(b)} {
			fails(t, append(bytes.Clone(b), make([]byte, n)...), api.ErrForm)
		}
		fails(t, append(bytes.Clone(b), b...), api.ErrForm)
		// A kind's fields without the last one, and with one too many.
		row := rowOf(kind)
		last := fieldOf(of(kind), rune(row[len(row)-1]))
		fails(t, b[:len(b)-len(last)], api.ErrShort)
		fails(t, append(bytes.Clone(b), last...), api.ErrForm)
	}
}

// TestGetLimit: what is longer than a message is not looked at.
func TestGetLimit(t *testing.T) {
	for _, kind := range kinds() {
		b := plain(of(kind))
		fails(t, append(bytes.Clone(b), make([]byte, 4096-len(b))...), api.ErrForm)
		fails(t, append(bytes.Clone(b), make([]byte, 4097-len(b))...), api.ErrLimit)
	}
	for _, n := range []int{4097, 4100, 5000, 1 << 16, 1 << 20} {
		fails(t, make([]byte, n), api.ErrLimit)
		fails(t, bytes.Repeat([]byte{0xff}, n), api.ErrLimit)
	}
	fails(t, make([]byte, 4096), api.ErrForm)
	fails(t, bytes.Repeat([]byte{0xff}, 4096), api.ErrForm)
}

// TestGetWide: a client and a kind that no byte holds are none, whatever their last bytes are.
func TestGetWide(t *testing.T) {
	rest := word(1)
	rest = append(rest, word(1)...)
	for _, high := range []uint32{1 << 8, 1 << 9, 1 << 15, 1 << 16, 1 << 24, 1 << 31, 0xffffff00} {
		for low := range uint32(256) {
			fails(t, append(headOf(high|low, 1, 1, api.DoGetattr), rest...), api.ErrForm)
			fails(t, append(headOf(0, 1, 1, high|low), rest...), api.ErrForm)
			fails(t, append(headOf(high|low, 1, 1, high|low), rest...), api.ErrForm)
			// The kind is looked at where it stands, the client at the end.
			fails(t, append(headOf(high|low, 1, 1, api.DoGetattr), rest[:7]...), api.ErrShort)
			fails(t, headOf(0, 1, 1, high|low), api.ErrForm)
		}
	}
	for low := range uint32(256) {
		want := api.ErrForm
		if low < 4 {
			want = api.OK
		}
		if _, e := call.Get(append(headOf(low, 1, 1, api.DoGetattr), rest...)); e != want {
			t.Errorf("Get of the client %d: %d", low, e)
		}
	}
	fails(t, append(headOf(0, 0, 1, api.DoGetattr), rest...), api.ErrForm)
	fails(t, append(headOf(0, 1, 0, api.DoGetattr), rest...), api.ErrForm)
}

// TestGetOrder: which error is told, where more than one applies.
func TestGetOrder(t *testing.T) {
	const good, bad, h = "00000000 00000001 0000000000000001", "00000100 00000000 0000000000000000", "00000001 00000001"
	for _, c := range []struct {
		b    string
		want api.Errno
	}{
		// Who calls is looked at behind all that stands there, and a kind where it stands.
		{bad + "000000", api.ErrShort}, {bad + "00000001" + "00000001 000000", api.ErrShort}, {bad + "00000001" + h, api.ErrForm},
		{good + "00000000", api.ErrForm}, {good + "0000000d", api.ErrForm}, {good + "ffffffff", api.ErrForm}, {bad + "00000000", api.ErrForm},
		{good + "000000", api.ErrShort}, {good + "0000000d" + h + "ffffffff", api.ErrForm},
		// A name: how many bytes there are, ahead of whether they are there, ahead of their padding.
		{good + "00000003" + h + "00001001", api.ErrLimit}, {good + "00000003" + h + "ffffffff", api.ErrLimit}, {good + "00000003" + h + "00001000", api.ErrShort}, {good + "00000003" + h + "00000fff 00", api.ErrShort},
		{good + "00000003" + h + "00000001 6101", api.ErrShort}, {good + "00000003" + h + "00000001 61010000", api.ErrForm}, {good + "00000003" + h + "00000003 61626301", api.ErrForm},
		{good + "00000003" + h + "00000000", api.ErrForm}, {good + "00000003" + h + "00000002 2e2e0000", api.ErrForm}, {good + "00000003" + h + "00000021" + strings.Repeat("61", 33) + "000000", api.ErrForm},
		{bad + "00000003" + h + "00001001", api.ErrLimit}, {bad + "00000003" + h + "00001000", api.ErrShort},
		// A write's place is looked at behind its bytes.
		{good + "00000005" + h + "ffffffff 00001001", api.ErrLimit}, {good + "00000005" + h + "ffffffff 00000001", api.ErrShort}, {good + "00000005" + h + "ffffffff 00000001 07000000", api.ErrForm},
		{good + "00000005" + h + "00000000 00000041" + strings.Repeat("07", 65) + "000000", api.ErrForm}, {good + "00000005" + h + "00000000 00000000", api.ErrForm}, {good + "00000005" + h + "00000fc1 00000001 07000000", api.ErrForm}, {good + "00000005" + h + "00000000 00000001 07000001", api.ErrForm},
		// From the left: the first of two that apply.
		{good + "0000000b" + h + "00000001 61000001" + h + "00001001", api.ErrForm}, {good + "0000000b" + h + "00000001 61000001", api.ErrForm}, {good + "0000000b" + h + "00000001 61000000" + h + "00001001", api.ErrLimit},
		{good + "0000000b" + h + "00001001" + h + "00000001 61000001", api.ErrLimit}, {good + "0000000b" + h + "00000001 2f000000" + h + "00001001", api.ErrLimit}, {good + "0000000b" + h + "00000001 2f000000" + h + "0000", api.ErrShort},
		{good + "0000000b" + h + "00000001 61000000" + h + "00000001 62000001", api.ErrForm}, {good + "0000000b" + h + "00000001 61000000" + h, api.ErrShort},
		// What may not be, with bytes left, and without.
		{good + "00000002" + h + "00001001", api.ErrForm}, {good + "00000002" + h + "00001000 00", api.ErrForm}, {good + "00000002" + h + "00001001 00", api.ErrForm}, {good + "00000002" + h + "000010", api.ErrShort},
		{good + "00000004" + h + "00001001 00000000", api.ErrForm}, {good + "00000004" + h + "00000000 00000041", api.ErrForm}, {good + "00000004" + h + "00001001 000000", api.ErrShort},
		{good + "00000001" + h, api.OK}, {good + "00000002" + h + "00001000", api.OK}, {good + "00000004" + h + "00001000 00000040", api.OK}, {good + "00000005" + h + "00000fc0 00000001 07000000", api.OK}, {good + "0000000b" + h + "00000001 61000000" + h + "00000001 61000000", api.OK},
	} {
		b := unhex(c.b)
		if c.want != api.OK {
			fails(t, b, c.want)
		} else if got, e := call.Get(b); e != api.OK || !bytes.Equal(plain(got), b) {
			t.Errorf("Get(%x) = %+v, %d", b, got, e)
		}
	}
}

// TestSame changes one field at a time, of calls that may be, and of such as may not.
func TestSame(t *testing.T) {
	changes := []func(*api.Call){
		func(c *api.Call) { c.Client++ }, func(c *api.Call) { c.Inc++ }, func(c *api.Call) { c.Inc += 1 << 31 }, func(c *api.Call) { c.Seq++ }, func(c *api.Call) { c.Seq += 1 << 32 }, func(c *api.Call) { c.Seq += 1 << 63 }, func(c *api.Call) { c.Kind++ },
		func(c *api.Call) { c.H.Ino++ }, func(c *api.Call) { c.H.Gen++ }, func(c *api.Call) { c.Name += "a" }, func(c *api.Call) { c.To.Ino++ }, func(c *api.Call) { c.To.Gen++ }, func(c *api.Call) { c.ToName += "a" },
		func(c *api.Call) { c.Off++ }, func(c *api.Call) { c.Size++ }, func(c *api.Call) { c.Data = append(bytes.Clone(c.Data), 0) }, func(c *api.Call) { c.H, c.To = api.Handle{Ino: 5, Gen: 6}, api.Handle{Ino: 6, Gen: 5} },
		func(c *api.Call) { c.Name, c.ToName = "xy", "z" }, func(c *api.Call) { c.Name, c.ToName = "x", "yz" }, func(c *api.Call) { c.Off, c.Size = 40, 41 }, func(c *api.Call) { c.Off, c.Size = 41, 40 },
	}
	bases := []api.Call{{}, {Data: []byte{}}, {Client: 255, Inc: math.MaxUint32, Seq: math.MaxUint64, Kind: 255, Name: "\xff", ToName: "\xff", Off: math.MaxUint32, Size: math.MaxUint32, Data: make([]byte, 100)}}
	for kind := range 14 {
		bases = append(bases, of(uint8(kind)))
	}
	for _, base := range bases {
		l := []api.Call{base, clone(base)}
		for _, change := range changes {
			c := clone(base)
			change(&c)
			l = append(l, c)
		}
		for _, a := range l {
			for _, b := range l {
				if got := call.Same(a, b); got != like(a, b) {
					t.Errorf("Same(%+v, %+v) = %t", a, b, got)
				}
			}
		}
	}
	for i := range 6 {
		a, b := of(api.DoWrite), of(api.DoWrite)
		if b.Data[i]++; call.Same(a, b) {
			t.Errorf("Same, but for the byte %d", i)
		}
	}
	if !call.Same(api.Call{Data: nil}, api.Call{Data: []byte{}}) || !call.Same(api.Call{Data: []byte{}}, api.Call{}) {
		t.Error("no bytes, and none, are not the same")
	}
}

// TestChanges goes through all numbers of kinds.
func TestChanges(t *testing.T) {
	want := []uint8{api.DoSetSize, api.DoWrite, api.DoCommit, api.DoCreate, api.DoMkdir, api.DoRemove, api.DoRmdir, api.DoRename}
	for kind := range 256 {
		if got := call.Changes(uint8(kind)); got != slices.Contains(want, uint8(kind)) {
			t.Errorf("Changes(%d) = %t", kind, got)
		}
	}
}

// TestArgumentsStay: what is handed in stays, and the room behind it.
func TestArgumentsStay(t *testing.T) {
	room := bytes.Repeat([]byte{9}, 100)
	c := of(api.DoWrite)
	c.Data = room[:5]
	call.Put(c)
	call.May(c)
	call.Same(c, c)
	if !bytes.Equal(room, bytes.Repeat([]byte{9}, 100)) {
		t.Errorf("bytes that were handed in became %x", room)
	}
	for _, kind := range kinds() {
		b := append(plain(of(kind)), room...)
		was := bytes.Clone(b)
		if call.Get(b[:len(b)-len(room)]); !bytes.Equal(b, was) {
			t.Errorf("bytes that were handed in became %x", b)
		}
	}
}

// sharesMemory tells whether a text has bytes in common with bytes.
func sharesMemory(s string, b []byte) bool {
	x, y := uintptr(unsafe.Pointer(unsafe.StringData(s))), uintptr(unsafe.Pointer(unsafe.SliceData(b)))
	return x < y+uintptr(cap(b)) && y < x+uintptr(len(s))
}

// TestAnswersAreNewMemory changes what was handed in, and what was answered.
func TestAnswersAreNewMemory(t *testing.T) {
	c := of(api.DoWrite)
	first, _ := call.Put(c)
	second, _ := call.Put(c)
	clear(first[:cap(first)])
	clear(c.Data)
	if !bytes.Equal(second, plain(of(api.DoWrite))) {
		t.Errorf("an answer follows another one, or what was handed in: %x", second)
	}
	x, _ := call.Get(second)
	y, _ := call.Get(second)
	_ = append(x.Data, 1, 2, 3)
	clear(x.Data[:cap(x.Data)])
	if !bytes.Equal(second, plain(of(api.DoWrite))) {
		t.Errorf("an answer shares memory with what was handed in: %x", second)
	}
	clear(second)
	if !like(y, of(api.DoWrite)) {
		t.Errorf("an answer follows another one, or what was handed in: %+v", y)
	}
	b := plain(of(api.DoRename))
	z, _ := call.Get(b)
	if sharesMemory(z.Name, b) || sharesMemory(z.ToName, b) {
		t.Error("a name is a piece of what was handed in")
	}
	clear(b)
	if !like(z, of(api.DoRename)) {
		t.Errorf("an answer follows what was handed in: %+v", z)
	}
}

// reading reads bytes from the left, as the chapter says; its first error stays.
type reading struct {
	b []byte
	e api.Errno
}

func (r *reading) take(n int) []byte {
	if r.e == api.OK && len(r.b) < n {
		r.e = api.ErrShort
	}
	if r.e != api.OK {
		return make([]byte, n)
	}
	b := r.b[:n]
	r.b = r.b[n:]
	return b
}

func (r *reading) word() uint32 { return binary.BigEndian.Uint32(r.take(4)) }

func (r *reading) some() []byte {
	n := r.word()
	if r.e == api.OK && n > 4096 {
		r.e = api.ErrLimit
	}
	if r.e != api.OK {
		return nil
	}
	b := r.take((int(n) + 3) / 4 * 4)
	if r.e == api.OK && strings.Trim(string(b[n:]), "\x00") != "" {
		r.e = api.ErrForm
	}
	if r.e != api.OK {
		return nil
	}
	return bytes.Clone(b[:n])
}

// model tells the call of bytes, or the error, as the chapter says.
func model(b []byte) (api.Call, api.Errno) {
	if len(b) > 4096 {
		return api.Call{}, api.ErrLimit
	}
	r := &reading{b: b}
	client, inc, seq, kind := r.word(), r.word(), binary.BigEndian.Uint64(r.take(8)), r.word()
	if r.e == api.OK && (kind > 255 || rowOf(uint8(kind)) == "") {
		r.e = api.ErrForm
	}
	c := api.Call{Client: uint8(client), Inc: inc, Seq: seq, Kind: uint8(kind)}
	for _, f := range rowOf(c.Kind) {
		switch f {
		case 'H':
			c.H = api.Handle{Ino: r.word(), Gen: r.word()}
		case 'O':
			c.Off = r.word()
		case 'S':
			c.Size = r.word()
		case 'N':
			c.Name = string(r.some())
		case 'T':
			c.To = api.Handle{Ino: r.word(), Gen: r.word()}
		case 'M':
			c.ToName = string(r.some())
		case 'D':
			c.Data = r.some()
		}
	}
	if r.e == api.OK && (len(r.b) > 0 || client > 255 || !mayBe(c)) {
		r.e = api.ErrForm
	}
	if r.e != api.OK {
		return api.Call{}, r.e
	}
	return c, api.OK
}

// beside holds that bytes tell what the model says, and that a call that they tell is put as the same.
func beside(t *testing.T, b []byte) api.Errno {
	t.Helper()
	want, e := model(b)
	got, f := call.Get(b)
	if e != f || !like(got, want) {
		t.Fatalf("Get(%x) = %+v, %d; want %+v, %d", b, got, f, want, e)
	}
	if e != api.OK {
		return e
	}
	if back, e := call.Put(got); !bytes.Equal(back, b) || e != api.OK || !call.May(got) {
		t.Fatalf("Put(Get(%x)) = %x, %d", b, back, e)
	}
	return e
}

// TestEachByteChanged lays each value at each place of each kind's bytes.
func TestEachByteChanged(t *testing.T) {
	for _, kind := range kinds() {
		b := plain(of(kind))
		for at := range b {
			was := b[at]
			for n := range 256 {
				b[at] = byte(n)
				beside(t, b)
			}
			b[at] = was
		}
	}
}

// anyText is a text that is a name mostly.
func anyText(pick *rand.Rand) string {
	if pick.Intn(8) > 0 {
		return strings.Repeat(string(rune('a'+pick.Intn(26))), 1+pick.Intn(32))
	}
	return []string{"", ".", "..", "a/b", "\xff", "\x00", "\xc3\xa9", strings.Repeat("n", 33)}[pick.Intn(8)]
}

// anyCall is a call that may be mostly.
func anyCall(pick *rand.Rand) api.Call {
	number := func(most int) uint32 { return uint32(pick.Intn(most + most/8 + 1)) }
	c := api.Call{Client: uint8(number(4)), Inc: number(9), Seq: pick.Uint64() >> pick.Intn(65), Kind: uint8(number(13)), H: api.Handle{Ino: pick.Uint32(), Gen: pick.Uint32()}}
	for _, f := range rowOf(c.Kind) {
		switch f {
		case 'O':
			c.Off = number(4096)
		case 'S':
			c.Size = number(64)
		case 'N':
			c.Name = anyText(pick)
		case 'T':
			c.To = api.Handle{Ino: pick.Uint32(), Gen: pick.Uint32()}
		case 'M':
			c.ToName = anyText(pick)
		case 'D':
			c.Data = make([]byte, number(64))
			pick.Read(c.Data)
		}
	}
	if pick.Intn(20) == 0 {
		c.Size++
	}
	return c
}

// TestPutIsGot puts any calls, beside the plain words of the chapter.
func TestPutIsGot(t *testing.T) {
	pick := rand.New(rand.NewSource(10))
	seen := map[string]int{}
	for range 20000 {
		c := anyCall(pick)
		seen[fmt.Sprint(c.Kind, mayBe(c))]++
		if !mayBe(c) {
			mayNot(t, c)
			beside(t, plain(c))
			continue
		}
		may(t, c)
		b, _ := call.Put(c)
		if got, e := call.Get(b); !call.Same(got, c) || e != api.OK {
			t.Fatalf("Get(Put(%+v)) = %+v, %d", c, got, e)
		}
	}
	for _, kind := range kinds() {
		if seen[fmt.Sprint(kind, true)] < 50 || seen[fmt.Sprint(kind, false)] < 50 {
			t.Errorf("the kind %d came %d times, and %d times wrong", kind, seen[fmt.Sprint(kind, true)], seen[fmt.Sprint(kind, false)])
		}
	}
}

// TestAnyBytes gets calls of bytes that are cut, lengthened and changed, beside a plain model.
func TestAnyBytes(t *testing.T) {
	pick := rand.New(rand.NewSource(30))
	seen := map[api.Errno]int{}
	for range 40000 {
		b := plain(anyCall(pick))
		switch pick.Intn(5) {
		case 0:
			b = b[:pick.Intn(len(b))]
		case 1:
			b = append(b, make([]byte, pick.Intn(5))...)
		case 2:
			b[pick.Intn(len(b))] ^= 1 << pick.Intn(8)
		case 3:
			at := 4 * pick.Intn(len(b)/4)
			copy(b[at:], word(uint32(pick.Uint64()>>pick.Intn(64))))
			b = b[:len(b)-pick.Intn(2)*pick.Intn(9)]
		}
		seen[beside(t, b)]++
	}
	for _, e := range []api.Errno{api.OK, api.ErrShort, api.ErrForm, api.ErrLimit} {
		if seen[e] < 100 {
			t.Errorf("error %d came %d times", e, seen[e])
		}
	}
}
