package subs

import (
	"math"
	"reflect"
	"strings"
	"testing"

	"crier/api"
)

func many(n int, f api.Filter) []api.Filter {
	l := make([]api.Filter, n)
	for i := range l {
		l[i] = f
	}
	return l
}

func TestPut(t *testing.T) {
	for _, x := range []struct {
		id   int
		l    []api.Filter
		ends bool
		b    string
	}{
		{1, []api.Filter{{Text: "a", Qos: 2}}, false, "\x00\x01\x00\x01a\x02"}, {1, []api.Filter{{Text: "a", Qos: 2}}, true, "\x00\x01\x00\x01a"},
		{65535, []api.Filter{{Text: "a/+"}, {Text: "", Qos: 1}}, false, "\xff\xff\x00\x03a/+\x00\x00\x00\x01"}, {256, []api.Filter{{Text: "#", Qos: 99}, {Text: "b", Qos: -1}}, true, "\x01\x00\x00\x01#\x00\x01b"},
	} {
		if b, e := Put(x.id, x.l, x.ends); string(b) != x.b || e != api.OK {
			t.Errorf("Put(%d, %v, %v): %x %d", x.id, x.l, x.ends, b, e)
		}
	}
	ok := api.Filter{Text: "a"}
	long := strings.Repeat("x", 65536)
	for name, x := range map[string]struct {
		id   int
		l    []api.Filter
		ends bool
		e    api.Errno
	}{
		"number 0": {0, nil, false, api.ErrArg}, "great number": {65536, many(9, ok), false, api.ErrArg}, "low number": {-1, nil, true, api.ErrArg}, "least number": {math.MinInt, nil, true, api.ErrArg},
		"none": {1, nil, false, api.ErrForm}, "none, ends": {1, []api.Filter{}, true, api.ErrForm}, "full": {1, many(9, api.Filter{Qos: 9}), false, api.ErrFull}, "full, ends": {1, many(9, ok), true, api.ErrFull},
		"Qos": {1, []api.Filter{ok, {Text: "\xff", Qos: 3}}, false, api.ErrRange}, "low Qos": {1, []api.Filter{{Qos: -1}}, false, api.ErrRange},
		"text": {1, []api.Filter{{Text: "\x00"}, {Qos: 9}}, false, api.ErrUtf}, "text, ends": {1, []api.Filter{{Text: "\xff", Qos: 9}}, true, api.ErrUtf}, "long text": {1, []api.Filter{{Text: long}, {Qos: 9}}, false, api.ErrLong},
		"long": {1, []api.Filter{{Text: long[:4092]}}, false, api.ErrLong}, "long, ends": {1, []api.Filter{{Text: long[:4093]}}, true, api.ErrLong}, "one by one ahead of long": {1, []api.Filter{{Text: long[:5000]}, {Qos: 9}}, false, api.ErrRange},
	} {
		if b, e := Put(x.id, x.l, x.ends); b != nil || e != x.e {
			t.Errorf("%s: %d bytes, %d, want %d", name, len(b), e, x.e)
		}
	}
	if b, e := Put(1, []api.Filter{{Text: long[:4091]}}, false); len(b) != 4096 || e != api.OK {
		t.Errorf("as many bytes as there may be: %d %d", len(b), e)
	}
	if b, e := Put(1, []api.Filter{{Text: long[:4092]}}, true); len(b) != 4096 || e != api.OK {
		t.Errorf("as many bytes as there may be, ends: %d %d", len(b), e)
	}
	if _, e := Put(1, many(8, ok), false); e != api.OK {
		t.Errorf("as many as there may be: %d", e)
	}
}

func TestOfWrong(t *testing.T) {
	eight, eightEnd := "\x00\x01"+strings.Repeat("\x00\x01a\x00", 8), "\x00\x01"+strings.Repeat("\x00\x01a", 8)
	for _, x := range []struct {
		b    string
		ends bool
		e    api.Errno
	}{
		{"", false, api.ErrShort}, {"\x00", true, api.ErrShort}, {"\x00\x00", false, api.ErrArg}, {"\x00\x00\x00", true, api.ErrArg}, {"\x00\x01", false, api.ErrForm}, {"\x00\x01", true, api.ErrForm},
		{"\x00\x01\x00", false, api.ErrShort}, {"\x00\x01\x00\x02a", true, api.ErrShort}, {"\x00\x01\x00\x01\x00\x09", false, api.ErrUtf}, {"\x00\x01\x00\x01\xff", true, api.ErrUtf},
		{"\x00\x01\x00\x01a", false, api.ErrShort}, {"\x00\x01\x00\x01a\x03", false, api.ErrRange}, {"\x00\x01\x00\x01a\x80", false, api.ErrRange}, {"\x00\x01\x00\x01a\x03\x00", false, api.ErrRange}, {"\x00\x01\x00\x01a\x02\x00", false, api.ErrShort},
		{eight + "\x00", false, api.ErrFull}, {eight + "\x00\x01\xff", false, api.ErrFull}, {eight + "\x00\x01a\x00", false, api.ErrFull}, {eightEnd + "\x00", true, api.ErrFull},
	} {
		if id, l, e := Of(x.b, x.ends); id != 0 || l != nil || e != x.e {
			t.Errorf("Of(%x, %v): %d %v %d, want %d", x.b, x.ends, id, l, e, x.e)
		}
	}
	if id, l, e := Of(eight, false); id != 1 || len(l) != 8 || e != api.OK {
		t.Errorf("as many as there may be: %d %v %d", id, l, e)
	}
	if id, l, e := Of(eightEnd, true); id != 1 || len(l) != 8 || e != api.OK {
		t.Errorf("as many as there may be, ends: %d %v %d", id, l, e)
	}
}

func TestWhatWasPutIsTold(t *testing.T) {
	for _, l := range [][]api.Filter{{{Text: "a", Qos: 2}}, {{Text: "", Qos: 1}, {Text: "a/+/#"}, {Text: "", Qos: 2}}, many(8, api.Filter{Text: "\u00e9", Qos: 1})} {
		for _, id := range []int{1, 256, 65535} {
			b, _ := Put(id, l, false)
			if n, got, e := Of(string(b), false); n != id || !reflect.DeepEqual(got, l) || e != api.OK {
				t.Errorf("%v: %d %v %d", l, n, got, e)
			}
			bare := append([]api.Filter{}, l...)
			for i := range bare {
				bare[i].Qos = 0
			}
			b, _ = Put(id, l, true)
			if n, got, e := Of(string(b), true); n != id || !reflect.DeepEqual(got, bare) || e != api.OK {
				t.Errorf("%v that end: %d %v %d", l, n, got, e)
			}
		}
	}
}

func TestAck(t *testing.T) {
	codes := []int{0, 1, 2, api.SubFailed, 0, 0, 0, 2}
	b, e := PutAck(258, codes)
	if string(b) != "\x01\x02\x00\x01\x02\x80\x00\x00\x00\x02" || e != api.OK {
		t.Errorf("PutAck: %x %d", b, e)
	}
	if id, got, e := OfAck(string(b)); id != 258 || !reflect.DeepEqual(got, codes) || e != api.OK {
		t.Errorf("OfAck: %d %v %d", id, got, e)
	}
	for _, x := range []struct {
		id    int
		codes []int
		e     api.Errno
	}{
		{0, nil, api.ErrArg}, {65536, []int{9}, api.ErrArg}, {-1, []int{0}, api.ErrArg}, {1, nil, api.ErrForm}, {1, []int{}, api.ErrForm}, {1, make([]int, 9), api.ErrFull}, {1, []int{9, 9, 9, 9, 9, 9, 9, 9, 9}, api.ErrFull},
		{1, []int{0, 3}, api.ErrRange}, {1, []int{-1}, api.ErrRange}, {1, []int{127}, api.ErrRange}, {1, []int{129}, api.ErrRange}, {1, []int{256}, api.ErrRange}, {1, []int{math.MinInt}, api.ErrRange}, {1, []int{128 + 256}, api.ErrRange},
	} {
		if b, e := PutAck(x.id, x.codes); b != nil || e != x.e {
			t.Errorf("PutAck(%d, %v): %x %d, want %d", x.id, x.codes, b, e, x.e)
		}
	}
	for b, want := range map[string]api.Errno{
		"": api.ErrShort, "\x01": api.ErrShort, "\x00\x00": api.ErrArg, "\x00\x00\x03": api.ErrArg, "\x00\x01": api.ErrForm, "\x00\x01\x00\x00\x00\x00\x00\x00\x00\x00\x03": api.ErrFull,
		"\x00\x01\x00\x03": api.ErrRange, "\x00\x01\x7f": api.ErrRange, "\x00\x01\xff\x00": api.ErrRange,
	} {
		if id, codes, e := OfAck(b); id != 0 || codes != nil || e != want {
			t.Errorf("OfAck(%x): %d %v %d, want %d", b, id, codes, e, want)
		}
	}
}
