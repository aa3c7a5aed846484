package name_test

import (
	"slices"
	"strings"
	"testing"
	"unsafe"

	"wharfage/api"
	"wharfage/name"
)

// encode tells a number as UTF-8 of a width, be it the shortest form, a rune, or not.
func encode(r, width int) string {
	switch width {
	case 1:
		return string([]byte{byte(r)})
	case 2:
		return string([]byte{byte(0xc0 | r>>6), byte(0x80 | r&0x3f)})
	case 3:
		return string([]byte{byte(0xe0 | r>>12), byte(0x80 | r>>6&0x3f), byte(0x80 | r&0x3f)})
	}
	return string([]byte{byte(0xf0 | r>>18), byte(0x80 | r>>12&0x3f), byte(0x80 | r>>6&0x3f), byte(0x80 | r&0x3f)})
}

// least is the least width that holds a number.
func least(r int) int {
	switch {
	case r < 0x80:
		return 1
	case r < 0x800:
		return 2
	case r < 0x10000:
		return 3
	}
	return 4
}

func isRune(r int) bool {
	return r <= 0x10ffff && (r < 0xd800 || r > 0xdfff)
}

func isBanned(r int) bool {
	return r < 32 || r == 127 || r == '/'
}

// malformed are texts that are not well formed.
func malformed() []string {
	return []string{
		"\xff", "\xfe", "\x80", "\xbf", "\xc3", "\xe2\x82", "\xe2", "\xf0\x9f\x98", "\xf0\x9f", "\xf0",
		"a\xff", "\xffa", "a\x80b", "a\xc3", "\xc3a", "\xc3\xc3\xa9", "\xc3\xa9\xa9", "\xe2\x82a", "\xe2\x82\xe2\x82\xac",
		"\xc0\x80", "\xc0\xaf", "\xc1\xbf", "\xc1\x81", "\xe0\x80\x80", "\xe0\x80\xaf", "\xe0\x9f\xbf", "\xf0\x80\x80\x80", "\xf0\x8f\xbf\xbf",
		"\xed\xa0\x80", "\xed\xad\xbf", "\xed\xae\x80", "\xed\xaf\xbf", "\xed\xb0\x80", "\xed\xbf\xbf", "\xed\xa0\x80\xed\xb0\x80",
		"\xf4\x90\x80\x80", "\xf5\x80\x80\x80", "\xf7\xbf\xbf\xbf", "\xf8\x88\x80\x80\x80", "\xfc\x84\x80\x80\x80\x80",
		"\xef\xbf\xbd\xff", "\xff\xef\xbf\xbd", "\xef\xbf", "a\xef\xbf", "\xef\xbf\xbd\xef\xbf",
	}
}

// TestExamples holds the chapter's table of examples, in its order.
func TestExamples(t *testing.T) {
	for _, c := range []struct {
		s    string
		want bool
	}{{"a", true}, {"..", false}, {"a/b", false}, {"\xc3\xa9", true}, {"\xff", false}, {"\xef\xbf\xbd", true}} {
		if name.Is(c.s) != c.want {
			t.Errorf("Is(%q) = %t", c.s, !c.want)
		}
	}
	if n, ok := name.Runes("\xc3\xa9a"); n != 2 || !ok {
		t.Errorf("Runes(c3 a9 61) = %d, %t", n, ok)
	}
	if l, e := name.Path("a/b"); !slices.Equal(l, []string{"a", "b"}) || e != api.OK {
		t.Errorf("Path(a/b) = %q, %d", l, e)
	}
	if l, e := name.Path(""); len(l) != 0 || e != api.OK {
		t.Errorf("Path(empty) = %q, %d", l, e)
	}
	if l, e := name.Path("a//b"); len(l) != 0 || e != api.ErrForm {
		t.Errorf("Path(a//b) = %q, %d", l, e)
	}
	if s, e := name.Write([]string{"a", "b"}); s != "a/b" || e != api.OK {
		t.Errorf("Write(a b) = %q, %d", s, e)
	}
	if name.May([]string{".."}) {
		t.Error("May(..) = true")
	}
}

func TestIs(t *testing.T) {
	for _, s := range []string{
		"a", "A", "0", " ", "  ", "~", "\\", "-", "*", "\"", ":", "...", ".a", "a.", "..a", "a..", ". ", " .", "....",
		"\xc2\x80", "\xc3\xa9", "e\xcc\x81", "\xef\xbb\xbf", "\xe2\x80\xa8", "\xef\xbf\xbd", "\xef\xbf\xbd\xef\xbf\xbd", "a\xef\xbf\xbd", "\xef\xbf\xbe", "\xef\xbf\xbf",
		"\xed\x9f\xbf", "\xee\x80\x80", "\xf0\x90\x80\x80", "\xf0\x9f\x98\x80", "\xf4\x8f\xbf\xbf",
	} {
		if !name.Is(s) {
			t.Errorf("Is(%q) = false", s)
		}
	}
	for _, s := range []string{"", ".", "..", "/", "a/b", "/a", "a/", "./", "../", "\x00", "a\x00", "\x00a", "\x1f", "\x7f", "a\x7f", "a\nb", "\t", "\r"} {
		if name.Is(s) {
			t.Errorf("Is(%q) = true", s)
		}
	}
}

func TestIsCountsBytes(t *testing.T) {
	for _, s := range []string{"n", ".", "\xc3\xa9", "\xe2\x82\xac", "\xef\xbf\xbd", "\xf0\x9f\x98\x80"} {
		for n := 1; n <= 70; n++ {
			text := strings.Repeat(s, n)
			want := len(text) <= api.MaxName && text != "." && text != ".."
			if name.Is(text) != want {
				t.Errorf("Is(%d times %q) = %t", n, s, !want)
			}
		}
	}
	if name.Is(strings.Repeat("n", 1<<20)) {
		t.Error("Is(2^20 n) = true")
	}
}

func TestEachRuneInEachForm(t *testing.T) {
	for r := range 0x200000 {
		for width := least(r); width <= 4; width++ {
			s := encode(r, width)
			isOne := width == least(r) && isRune(r)
			if got, ok := name.Runes(s); ok != isOne || ok && got != 1 || !ok && got != 0 {
				t.Fatalf("Runes(%x) = %d, %t", s, got, ok)
			}
			if want := isOne && !isBanned(r) && r != '.'; name.Is(s) != want {
				t.Fatalf("Is(%x) = %t", s, !want)
			}
			if want := isOne && !isBanned(r); name.Is("ab"+s+"c") != want {
				t.Fatalf("Is(ab %x c) = %t", s, !want)
			}
		}
	}
}

func TestEachTwoBytes(t *testing.T) {
	for i := range 256 {
		for j := range 256 {
			s := string([]byte{byte(i), byte(j)})
			want, runes := false, 0
			switch {
			case i < 0x80 && j < 0x80:
				want, runes = true, 2
			case i >= 0xc2 && i <= 0xdf && j >= 0x80 && j <= 0xbf:
				want, runes = true, 1
			}
			if n, ok := name.Runes(s); n != runes || ok != want {
				t.Errorf("Runes(%x) = %d, %t", s, n, ok)
			}
			if want && runes == 2 {
				want = !isBanned(i) && !isBanned(j) && s != ".."
			}
			if name.Is(s) != want {
				t.Errorf("Is(%x) = %t", s, !want)
			}
		}
	}
}

func TestWhatIsNotWellFormed(t *testing.T) {
	for _, s := range malformed() {
		if name.Is(s) {
			t.Errorf("Is(%x) = true", s)
		}
		if n, ok := name.Runes(s); n != 0 || ok {
			t.Errorf("Runes(%x) = %d, %t", s, n, ok)
		}
		for _, text := range []string{s, "a/" + s, s + "/a", "a/" + s + "/b", "a/b/c/d/" + s} {
			if l, e := name.Path(text); len(l) != 0 || e != api.ErrForm {
				t.Errorf("Path(%x) = %q, %d; want ErrForm", text, l, e)
			}
		}
		if got, e := name.Write([]string{"a", s}); got != "" || e != api.ErrArg {
			t.Errorf("Write(a, %x) = %q, %d; want ErrArg", s, got, e)
		}
		if name.May([]string{s}) {
			t.Errorf("May(%x) = true", s)
		}
	}
}

func TestRunes(t *testing.T) {
	for _, c := range []struct {
		s    string
		want int
	}{
		// What is no name may be well formed, and have runes.
		{"", 0}, {"a", 1}, {"ab", 2}, {".", 1}, {"..", 2}, {"a/b", 3}, {"\x00", 1}, {"\x00\x1f\x7f/", 4}, {"\n", 1},
		{"\xc3\xa9a", 2}, {"e\xcc\x81", 2}, {"\xe2\x82\xac\xf0\x9f\x98\x80", 2}, {"\xef\xbf\xbd", 1}, {"\xef\xbf\xbd\xef\xbf\xbda", 3}, {"\xef\xbb\xbfa", 2},
		{strings.Repeat("n", 33), 33}, {strings.Repeat("\xc3\xa9", 1000), 1000}, {strings.Repeat("\xef\xbf\xbd", 5000), 5000},
	} {
		if n, ok := name.Runes(c.s); n != c.want || !ok {
			t.Errorf("Runes(%q) = %d, %t; want %d", c.s, n, ok, c.want)
		}
	}
	long := strings.Repeat("n", 1<<16)
	for _, s := range []string{long + "\xff", "\xff" + long, long + "\xff" + long} {
		if n, ok := name.Runes(s); n != 0 || ok {
			t.Errorf("Runes of a long text that is not well formed = %d, %t", n, ok)
		}
	}
}

func TestPath(t *testing.T) {
	longest := strings.Repeat("n", api.MaxName)
	for _, c := range []struct {
		s    string
		want []string
		e    api.Errno
	}{
		{"", nil, api.OK},
		{"a", []string{"a"}, api.OK},
		{"a/b", []string{"a", "b"}, api.OK},
		{"b/a", []string{"b", "a"}, api.OK},
		{"a/a/a", []string{"a", "a", "a"}, api.OK},
		{"a/b/c/d", []string{"a", "b", "c", "d"}, api.OK},
		{" / ", []string{" ", " "}, api.OK},
		{".../..a", []string{"...", "..a"}, api.OK},
		{"\xc3\xa9/\xef\xbf\xbd", []string{"\xc3\xa9", "\xef\xbf\xbd"}, api.OK},
		{longest + "/" + longest + "/" + longest + "/" + longest, []string{longest, longest, longest, longest}, api.OK},
		{longest + "n", nil, api.ErrForm}, {"a/" + longest + "n/b", nil, api.ErrForm},
		{"/", nil, api.ErrForm}, {"//", nil, api.ErrForm}, {"/a", nil, api.ErrForm}, {"a/", nil, api.ErrForm}, {"a//b", nil, api.ErrForm},
		{".", nil, api.ErrForm}, {"..", nil, api.ErrForm}, {"./a", nil, api.ErrForm}, {"a/.", nil, api.ErrForm}, {"a/../b", nil, api.ErrForm},
		{"a/b\x00", nil, api.ErrForm}, {"\x7f/a", nil, api.ErrForm}, {"a\n/b", nil, api.ErrForm},
		{"a/b/c/d/", nil, api.ErrForm}, {"/a/b/c/d", nil, api.ErrForm},
		{"a/b/c/d/e", nil, api.ErrLimit}, {"a/b/c/d/e/f/g/h/i", nil, api.ErrLimit}, {strings.Repeat("a/", 1<<16) + "a", nil, api.ErrLimit},
		// What is no name comes ahead of too many, wherever it stands.
		{"a/b/c/d/.", nil, api.ErrForm}, {"a/b/c/d/e/", nil, api.ErrForm}, {"./b/c/d/e", nil, api.ErrForm}, {"a/b/c/d/e/f/../g", nil, api.ErrForm},
		{strings.Repeat("a/", 1<<16), nil, api.ErrForm}, {strings.Repeat("/", 1<<16), nil, api.ErrForm},
	} {
		if l, e := name.Path(c.s); !slices.Equal(l, c.want) || e != c.e {
			t.Errorf("Path(%.50q) = %q, %d; want %q, %d", c.s, l, e, c.want, c.e)
		}
	}
}

func TestWriteAndMay(t *testing.T) {
	longest := strings.Repeat("n", api.MaxName)
	for _, c := range []struct {
		l    []string
		want string
		e    api.Errno
	}{
		{nil, "", api.OK}, {[]string{}, "", api.OK},
		{[]string{"a"}, "a", api.OK},
		{[]string{"a", "b"}, "a/b", api.OK}, {[]string{"b", "a"}, "b/a", api.OK}, {[]string{"a", "a"}, "a/a", api.OK},
		{[]string{"a", "b", "c", "d"}, "a/b/c/d", api.OK},
		{[]string{"\xc3\xa9", " ", "..."}, "\xc3\xa9/ /...", api.OK},
		{[]string{longest}, longest, api.OK},
		{[]string{""}, "", api.ErrArg}, {[]string{"a", ""}, "", api.ErrArg}, {[]string{"", "a"}, "", api.ErrArg},
		{[]string{"."}, "", api.ErrArg}, {[]string{".."}, "", api.ErrArg}, {[]string{"a", "..", "b"}, "", api.ErrArg},
		{[]string{"/"}, "", api.ErrArg}, {[]string{"a/b"}, "", api.ErrArg}, {[]string{"a", "b/c"}, "", api.ErrArg}, {[]string{"a\x00"}, "", api.ErrArg},
		{[]string{longest + "n"}, "", api.ErrArg}, {[]string{"a", "b", "c", "\xff"}, "", api.ErrArg},
		{[]string{"a", "b", "c", "d", "e"}, "", api.ErrArg}, {[]string{"a", "b", "c", "d", ""}, "", api.ErrArg}, {slices.Repeat([]string{"a"}, 1000), "", api.ErrArg},
	} {
		if s, e := name.Write(c.l); s != c.want || e != c.e {
			t.Errorf("Write(%.50q) = %q, %d; want %q, %d", c.l, s, e, c.want, c.e)
		}
		if name.May(c.l) != (c.e == api.OK) {
			t.Errorf("May(%.50q) = %t", c.l, c.e != api.OK)
		}
	}
}

// TestWhatIsWrittenIsTold goes through all lists of up to five of some texts, and all texts that they make.
func TestWhatIsWrittenIsTold(t *testing.T) {
	texts := []string{"a", "b", "..", "", "\xc3\xa9", "\xff", "a/b"}
	lists := [][]string{nil}
	for from := 0; from < len(lists); from++ {
		l := lists[from]
		if s, e := name.Write(l); e == api.OK {
			if back, e := name.Path(s); !slices.Equal(back, l) || e != api.OK {
				t.Errorf("Path(Write(%q)) = %q, %d", l, back, e)
			}
		}
		s := strings.Join(l, "/")
		if told, e := name.Path(s); e == api.OK {
			if back, e := name.Write(told); back != s || e != api.OK || !name.May(told) {
				t.Errorf("Write(Path(%q)) = %q, %d", s, back, e)
			}
		} else if len(told) != 0 {
			t.Errorf("Path(%q) = %q, %d", s, told, e)
		}
		if len(l) == 5 {
			continue
		}
		for _, s := range texts {
			lists = append(lists, append(slices.Clone(l), s))
		}
	}
}

func TestArgumentsStay(t *testing.T) {
	room := []string{"a", "b", "c", "d", "e"}
	was := slices.Clone(room)
	name.Write(room[:2])
	name.Write(room)
	name.May(room[:2])
	name.May(room)
	if !slices.Equal(room, was) {
		t.Errorf("names that were handed in became %q", room)
	}
}

// sharesMemory tells whether two texts have bytes in common.
func sharesMemory(a, b string) bool {
	x, y := uintptr(unsafe.Pointer(unsafe.StringData(a))), uintptr(unsafe.Pointer(unsafe.StringData(b)))
	return x < y+uintptr(len(b)) && y < x+uintptr(len(a))
}

func TestAnswersAreNewMemory(t *testing.T) {
	text := strings.Clone("first/second/third")
	l, _ := name.Path(text)
	clear(l)
	l, _ = name.Path(text)
	if !slices.Equal(l, []string{"first", "second", "third"}) {
		t.Errorf("an answer follows another one: %q", l)
	}
	for _, s := range l {
		if sharesMemory(s, text) {
			t.Errorf("the name %q is a piece of the text", s)
		}
	}
	single := []string{strings.Clone("first")}
	if s, _ := name.Write(single); sharesMemory(s, single[0]) {
		t.Error("the path of one name is that name")
	}
}
