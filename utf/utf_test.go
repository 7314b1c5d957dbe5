package utf

import (
	"math"
	"strings"
	"testing"
	"unicode/utf8"

	"crier/api"
)

const allWidths = "a\u00e9\uffff\U0010ffff\ufffd\u0080\u0800\U00010000\u007f\u0001\ud7ff\ue000"

func TestRight(t *testing.T) {
	for _, s := range []string{"", "a", allWidths, "\ufffd", strings.Repeat("x", api.MaxString), strings.Repeat("\u00e9", api.MaxString/2)} {
		if !Right(s) {
			t.Errorf("%.20q is a text", s)
		}
	}
	for _, s := range []string{
		"\x00", "a\x00b", "\xc0\x80", "\xc1\xbf", "\xe0\x80\x80", "\xe0\x9f\xbf", "\xf0\x80\x80\x80", "\xf0\x8f\xbf\xbf",
		"\xed\xa0\x80", "\xed\xbf\xbf", "\xf4\x90\x80\x80", "\xf5\x80\x80\x80", "\xff", "\xfe", "\x80", "a\xc3", "\xc3a", "\xef\xbf", "\xef\xbf\xbd\xef\xbf",
		strings.Repeat("x", api.MaxString+1),
	} {
		if Right(s) {
			t.Errorf("%.20q is no text", s)
		}
	}
}

func TestPut(t *testing.T) {
	for _, x := range []struct {
		s, b   string
		e, raw api.Errno
	}{
		{"a", "\x00\x01a", api.OK, api.OK}, {"", "\x00\x00", api.OK, api.OK}, {"\x00", "\x00\x01\x00", api.ErrUtf, api.OK}, {"\xff\xfe", "\x00\x02\xff\xfe", api.ErrUtf, api.OK},
		{strings.Repeat("x", 258), "\x01\x02" + strings.Repeat("x", 258), api.OK, api.OK},
		{strings.Repeat("x", api.MaxString), "\xff\xff" + strings.Repeat("x", api.MaxString), api.OK, api.OK},
		{strings.Repeat("\xff", api.MaxString), "\xff\xff" + strings.Repeat("\xff", api.MaxString), api.ErrUtf, api.OK},
		{strings.Repeat("x", api.MaxString+1), "", api.ErrLong, api.ErrLong}, {strings.Repeat("\xff", api.MaxString+1), "", api.ErrLong, api.ErrLong},
	} {
		want := x.b
		if x.e != api.OK {
			want = ""
		}
		if b, e := Put(x.s); string(b) != want || e != x.e {
			t.Errorf("Put(%.20q): %.20x %d", x.s, b, e)
		}
		if b, e := PutRaw(x.s); string(b) != x.b || e != x.raw {
			t.Errorf("PutRaw(%.20q): %.20x %d", x.s, b, e)
		}
	}
}

func TestGetWrong(t *testing.T) {
	for _, x := range []struct {
		b      string
		at     int
		e, raw api.Errno
	}{
		{"", 0, api.ErrShort, api.ErrShort}, {"", 1, api.ErrArg, api.ErrArg}, {"\x00\x00", -1, api.ErrArg, api.ErrArg}, {"\x00\x00", 3, api.ErrArg, api.ErrArg},
		{"\x00\x00", math.MaxInt, api.ErrArg, api.ErrArg}, {"\x00\x00", math.MinInt, api.ErrArg, api.ErrArg},
		{"\x00\x00", 2, api.ErrShort, api.ErrShort}, {"\x00", 0, api.ErrShort, api.ErrShort}, {"\x00\x02a", 0, api.ErrShort, api.ErrShort}, {"\xff\xff\xff", 0, api.ErrShort, api.ErrShort},
		{"\x00\x01\x00", 0, api.ErrUtf, api.OK}, {"\x00\x02\xc0\x80", 0, api.ErrUtf, api.OK},
	} {
		if s, at, e := Get([]byte(x.b), x.at); s != "" || at != 0 || e != x.e {
			t.Errorf("Get(%x, %d): %q %d %d", x.b, x.at, s, at, e)
		}
		s, at, e := GetRaw([]byte(x.b), x.at)
		if e != x.raw || e != api.OK && (s != "" || at != 0) || e == api.OK && (s != x.b[2:] || at != len(x.b)) {
			t.Errorf("GetRaw(%x, %d): %q %d %d", x.b, x.at, s, at, e)
		}
	}
}

func TestWhatWasPutIsGot(t *testing.T) {
	for _, s := range []string{"", "a", allWidths, strings.Repeat("y", api.MaxString)} {
		b, _ := Put(s)
		b = append(append([]byte{1, 2, 3}, b...), 9, 9)
		if got, at, e := Get(b, 3); got != s || at != len(b)-2 || e != api.OK {
			t.Errorf("%.20q: %.20q %d %d", s, got, at, e)
		}
	}
	raw := "\x00\xff\xc0\x80"
	b, _ := PutRaw(raw)
	if got, at, e := GetRaw(b, 0); got != raw || at != 6 || e != api.OK {
		t.Errorf("raw: %x %d %d", got, at, e)
	}
}

func TestCutText(t *testing.T) {
	for cut := 0; cut <= len(allWidths); cut++ {
		between := cut == len(allWidths) || utf8.RuneStart(allWidths[cut])
		if Right(allWidths[:cut]) != between || Right(allWidths[cut:]) != between {
			t.Errorf("cut at %d: %v %v, between two runes: %v", cut, Right(allWidths[:cut]), Right(allWidths[cut:]), between)
		}
	}
}

func TestTwoBytes(t *testing.T) {
	for _, n := range []int{0, 1, 255, 256, 258, 65535} {
		b, e := Put2(n)
		if e != api.OK || len(b) != 2 || int(b[0])*256+int(b[1]) != n {
			t.Errorf("Put2(%d): %v %d", n, b, e)
		}
		if got, at, e := Get2(append([]byte{7}, b...), 1); got != n || at != 3 || e != api.OK {
			t.Errorf("Get2 of %d: %d %d %d", n, got, at, e)
		}
	}
	for _, n := range []int{-1, 65536, math.MinInt, math.MaxInt} {
		if b, e := Put2(n); b != nil || e != api.ErrArg {
			t.Errorf("Put2(%d): %v %d", n, b, e)
		}
	}
	for _, x := range []struct {
		b  []byte
		at int
		e  api.Errno
	}{{nil, 0, api.ErrShort}, {[]byte{1}, 0, api.ErrShort}, {[]byte{1, 2}, 1, api.ErrShort}, {[]byte{1, 2}, 2, api.ErrShort}, {[]byte{1, 2}, 3, api.ErrArg}, {[]byte{1, 2}, -1, api.ErrArg}} {
		if n, at, e := Get2(x.b, x.at); n != 0 || at != 0 || e != x.e {
			t.Errorf("Get2(%v, %d): %d %d %d", x.b, x.at, n, at, e)
		}
	}
}
