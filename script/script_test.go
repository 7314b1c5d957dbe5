package script

import (
	"math"
	"slices"
	"strconv"
	"strings"
	"testing"

	"crier/api"
)

// printed are events, each with its line.
func printed() map[string]api.Event {
	return map[string]api.Event{
		"open 0": {K: api.EvOpen}, "bytes 0 c000": {K: api.EvBytes, Data: "\xc0\x00"}, "bytes 7 -": {K: api.EvBytes, Conn: 7}, "bytes 1073741824 0123456789abcdefff": {K: api.EvBytes, Conn: api.MaxClock, Data: "\x01\x23\x45\x67\x89\xab\xcd\xef\xff"},
		"close 99": {K: api.EvClose, Conn: 99}, "tick 1000": {K: api.EvTick, N: 1000}, "tick 0": {K: api.EvTick}, "serve 10": {K: api.EvServe, Conn: 10}, "tick 1073741824": {K: api.EvTick, N: api.MaxClock},
	}
}

func TestPrintParse(t *testing.T) {
	for line, e := range printed() {
		if got, f := Print(e); got != line || f != api.OK {
			t.Errorf("Print(%v): %q %d", e, got, f)
		}
		if got, f := Parse(line); got != e || f != api.OK {
			t.Errorf("Parse(%q): %v %d", line, got, f)
		}
	}
	for _, k := range []int{api.EvOpen, api.EvClose, api.EvServe, api.EvTick} { // what a kind has not plays no part
		e := api.Event{K: k, Conn: 3, N: 4, Data: "x"}
		if k == api.EvTick {
			e.Conn = -1
		} else {
			e.N = -1
		}
		line, f := Print(e)
		got, g := Parse(line)
		if f != api.OK || g != api.OK || got.Data != "" || got.K != k || k == api.EvTick && (got.N != 4 || got.Conn != 0) || k != api.EvTick && (got.Conn != 3 || got.N != 0) {
			t.Errorf("%v: %q %d, %v %d", e, line, f, got, g)
		}
	}
}

func TestPrintWrong(t *testing.T) {
	long := strings.Repeat("x", 16381)
	for _, x := range []struct {
		e    api.Event
		want api.Errno
	}{
		{api.Event{K: -1, Conn: -1}, api.ErrKind}, {api.Event{K: 5}, api.ErrKind}, {api.Event{K: math.MinInt}, api.ErrKind}, {api.Event{K: math.MaxInt}, api.ErrKind},
		{api.Event{K: api.EvOpen, Conn: -1}, api.ErrRange}, {api.Event{K: api.EvClose, Conn: api.MaxClock + 1}, api.ErrRange}, {api.Event{K: api.EvServe, Conn: math.MaxInt}, api.ErrRange}, {api.Event{K: api.EvBytes, Conn: math.MinInt, Data: long}, api.ErrRange},
		{api.Event{K: api.EvTick, N: -1}, api.ErrRange}, {api.Event{K: api.EvTick, N: api.MaxClock + 1}, api.ErrRange},
		{api.Event{K: api.EvBytes, Data: long}, api.ErrLong}, {api.Event{K: api.EvBytes, Conn: 10, Data: long[:16380]}, api.ErrLong}, {api.Event{K: api.EvBytes, Data: strings.Repeat("x", 1<<20)}, api.ErrLong},
	} {
		if line, e := Print(x.e); line != "" || e != x.want {
			t.Errorf("Print(%.40v): %d bytes, %d, want %d", x.e, len(line), e, x.want)
		}
	}
	e := api.Event{K: api.EvBytes, Data: long[:16380]}
	line, f := Print(e)
	if len(line) != api.MaxText || f != api.OK {
		t.Errorf("as long as may be: %d %d", len(line), f)
	}
	if got, f := Parse(line); got != e || f != api.OK {
		t.Errorf("Parse of a longest one: %d", f)
	}
	if got, f := Parse(line + "0"); got != (api.Event{}) || f != api.ErrLong {
		t.Errorf("Parse of a longer one: %d", f)
	}
}

func TestParseWrong(t *testing.T) {
	for _, line := range []string{
		"", " ", "open", "open ", "open  0", " open 0", "open 0 ", "open 0 1", "open 00", "open 01", "open -1", "open +1", "open 1.0", "open x", "open 0x1", "open \u0661", "open 1\xff", "open 1073741825", "open 9999999999", "open 10000000000", "open 18446744073709551617", "Open 0", "open\t0", "open 0\n", "open 0\r",
		"bytes", "bytes 0", "bytes 0 ", "bytes 0 0", "bytes 0 C0", "bytes 0 zz", "bytes 0 c0 00", "bytes 0 --", "bytes 0 -0", "bytes 0 c\u00e9", "bytes 0 \u00e9", "bytes 0 \xff\xff", "bytes 0 c00", "bytes - c0", "bytes x -", "bytes 0 c0 ",
		"close", "close -", "tick", "tick 1 2", "tick -", "serve", "serve a", "tack 1", "opens 0", "o 0",
	} {
		if e, f := Parse(line); e != (api.Event{}) || f != api.ErrForm {
			t.Errorf("Parse(%q): %v %d", line, e, f)
		}
	}
}

func TestBytes(t *testing.T) {
	for s, want := range map[string]string{"": "-", "\x00": "00", "\xc0\x00": "c000", "-": "2d", "\x0f\xf0\xa5": "0ff0a5"} {
		if got := Bytes(s); got != want {
			t.Errorf("Bytes(%x): %q", s, got)
		}
	}
	for i := range 256 {
		s := string([]byte{byte(i), byte(255 - i)})
		if e, f := Parse("bytes 0 " + Bytes(s)); e.Data != s || f != api.OK {
			t.Errorf("%x: %x %d", s, e.Data, f)
		}
	}
}

func TestAll(t *testing.T) {
	text, e := PrintAll([]api.Event{{K: api.EvOpen}, {K: api.EvTick, N: 5}})
	if text != "open 0\ntick 5\n" || e != api.OK {
		t.Errorf("PrintAll: %q %d", text, e)
	}
	if text, e := PrintAll(nil); text != "" || e != api.OK {
		t.Errorf("PrintAll of nothing: %q %d", text, e)
	}
	open := api.Event{K: api.EvOpen}
	many := slices.Repeat([]api.Event{open}, 513)
	great := api.Event{K: api.EvBytes, Data: strings.Repeat("x", 16379)}
	for name, x := range map[string]struct {
		l []api.Event
		e api.Errno
	}{
		"full": {append([]api.Event{{K: 9}}, many...), api.ErrFull}, "first": {[]api.Event{open, {K: api.EvOpen, Conn: -1}, {K: 9}}, api.ErrRange}, "first, too": {[]api.Event{great, great, {K: 9}}, api.ErrKind},
		"long": {[]api.Event{great, open}, api.ErrLong}, "long line": {[]api.Event{{K: api.EvBytes, Data: great.Data + "xx"}, {K: 9}}, api.ErrLong}, "no room for its end": {[]api.Event{{K: api.EvBytes, Data: great.Data + "x"}}, api.ErrLong},
	} {
		if text, e := PrintAll(x.l); text != "" || e != x.e {
			t.Errorf("%s: %d bytes, %d, want %d", name, len(text), e, x.e)
		}
	}
	text, e = PrintAll(many[:512])
	if l, at, f := ParseAll(text); e != api.OK || !slices.Equal(l, many[:512]) || at != 0 || f != api.OK {
		t.Errorf("as many as there may be: %d, %d %d %d", e, len(l), at, f)
	}
	whole := api.Event{K: api.EvBytes, Conn: 10, Data: great.Data}
	if text, e := PrintAll([]api.Event{whole}); len(text) != api.MaxText || e != api.OK {
		t.Errorf("as long as may be: %d %d", len(text), e)
	} else if l, _, e := ParseAll(text); len(l) != 1 || l[0] != whole || e != api.OK {
		t.Errorf("ParseAll of a longest one: %d %d", len(l), e)
	}
	if text, e := PrintAll([]api.Event{great}); len(text) != api.MaxText-1 || e != api.OK {
		t.Errorf("nearly as long as may be: %d %d", len(text), e)
	}
}

func TestParseAll(t *testing.T) {
	for _, x := range []struct {
		text string
		n    int
		at   int
		e    api.Errno
	}{
		{"", 0, 0, 0}, {"open 0", 1, 0, 0}, {"open 0\n", 1, 0, 0}, {"open 0\ntick 1", 2, 0, 0},
		{"\n", 0, 0, api.ErrForm}, {"open 0\n\n", 0, 1, api.ErrForm}, {"open 0\n\ntick 1\n", 0, 1, api.ErrForm}, {"x\ny", 0, 0, api.ErrForm}, {"open 0\nopen 0\nopen\n", 0, 2, api.ErrForm}, {"open 0\r\n", 0, 0, api.ErrForm}, {"open 0 \n", 0, 0, api.ErrForm},
		{strings.Repeat("open 0\n", 512), 512, 0, 0}, {strings.Repeat("open 0\n", 512) + "open 0", 0, 0, api.ErrFull}, {strings.Repeat("\n", 513), 0, 0, api.ErrFull}, {strings.Repeat("\n", 512), 0, 0, api.ErrForm}, {strings.Repeat("open 0\n", 511) + "x", 0, 511, api.ErrForm},
		{strings.Repeat("x", 32769), 0, 0, api.ErrLong}, {strings.Repeat("\n", 32769), 0, 0, api.ErrLong}, {strings.Repeat("x", 32768), 0, 0, api.ErrForm},
	} {
		l, at, e := ParseAll(x.text)
		if len(l) != x.n || at != x.at || e != x.e {
			t.Errorf("ParseAll(%.20q): %d %d %d, want %d %d %d", x.text, len(l), at, e, x.n, x.at, x.e)
		}
		if out, at, e := Play(x.text); x.e != 0 && (out != "" || at != x.at || e != x.e) {
			t.Errorf("Play(%.20q): %q %d %d", x.text, out, at, e)
		}
	}
	var text string
	var want []api.Event
	for line, e := range printed() {
		text += line + "\n"
		want = append(want, e)
	}
	if l, _, e := ParseAll(text); !slices.Equal(l, want) || e != api.OK {
		t.Errorf("ParseAll: %v %d", l, e)
	}
	if again, e := PrintAll(want); again != text || e != api.OK {
		t.Errorf("PrintAll: %q %d", again, e)
	}
}

func TestPlay(t *testing.T) {
	const connect = "100d00044d5154540402000a000161"
	for text, want := range map[string]string{
		"":                                    "",
		"tick 5":                              "",
		"open 3":                              "3 open -\n",
		"open 3\nclose 3\nopen 1\nopen 3":     "3 closed -\n1 open -\n3 open -\n",
		"open 9\nserve 9\ntick 5000\nclose 1": "",
		"open 0\nbytes 0 " + connect + "\nserve 0":                                         "0 open 20020000\n",
		"open 0\nbytes 0 1\nserve 0":                                                       "",
		"open 0\nbytes 0 " + connect + "c000\nserve 0\nserve 0\nserve 0\n":                 "0 open 20020000d000\n",
		"open 0\nbytes 0 " + connect + "\nserve 0\ntick 16\nopen 1\nbytes 1 00\nserve 1\n": "0 closed 20020000\n1 closed -\n",
	} {
		out, at, e := Play(text)
		if text == "open 0\nbytes 0 1\nserve 0" {
			if out != "" || at != 1 || e != api.ErrForm {
				t.Errorf("Play(%q): %q %d %d", text, out, at, e)
			}
			continue
		}
		if out != want || at != 0 || e != api.OK {
			t.Errorf("Play(%q): %q %d %d", text, out, at, e)
		}
	}
	all := "open 7\nbytes 7 " + connect + "\nserve 7\n" + strings.Repeat("tick 1\n", 14)
	for n, want := range map[int]string{0: "7 open 20020000\n", 1: "7 open 20020000\n", 2: "7 closed 20020000\n"} {
		if out, _, e := Play(all + strings.Repeat("tick 1\n", n)); out != want || e != api.OK {
			t.Errorf("Play with %s more ticks: %q %d", strconv.Itoa(n), out, e)
		}
	}
}
