package publish

import (
	"math"
	"strings"
	"testing"

	"crier/api"
)

func TestPut(t *testing.T) {
	for _, x := range []struct {
		m  api.Msg
		id int
		b  string
	}{
		{api.Msg{Topic: "a", Text: "x", Qos: 1}, 5, "\x00\x01a\x00\x05x"}, {api.Msg{Topic: "a", Text: "\x00\xff"}, 0, "\x00\x01a\x00\xff"},
		{api.Msg{Topic: "$a/b c", Qos: 2, Retain: true}, 65535, "\x00\x06$a/b c\xff\xff"},
	} {
		if b, e := Put(x.m, x.id); string(b) != x.b || e != api.OK {
			t.Errorf("Put(%v, %d): %x %d", x.m, x.id, b, e)
		}
	}
	long := strings.Repeat("x", 65536)
	for name, x := range map[string]struct {
		m  api.Msg
		id int
		e  api.Errno
	}{
		"Qos": {api.Msg{Qos: 3}, 0, api.ErrFlags}, "low Qos": {api.Msg{Topic: "+", Qos: -1}, 0, api.ErrFlags}, "least Qos": {api.Msg{Qos: math.MinInt}, 0, api.ErrFlags},
		"empty": {api.Msg{Qos: 1}, 0, api.ErrTopic}, "plus": {api.Msg{Topic: "a+\xff"}, 1, api.ErrTopic}, "hash": {api.Msg{Topic: "\xff#"}, 0, api.ErrTopic}, "hash, long": {api.Msg{Topic: long + "#"}, 0, api.ErrTopic},
		"text": {api.Msg{Topic: "a\x00"}, 1, api.ErrUtf}, "long topic": {api.Msg{Topic: long, Qos: 1}, 0, api.ErrLong},
		"number": {api.Msg{Topic: "a", Text: long}, 1, api.ErrArg}, "low number": {api.Msg{Topic: "a"}, -1, api.ErrArg}, "no number": {api.Msg{Topic: "a", Qos: 1}, 0, api.ErrArg}, "great number": {api.Msg{Topic: "a", Qos: 2}, 65536, api.ErrArg}, "less than none": {api.Msg{Topic: "a", Qos: 2}, math.MinInt, api.ErrArg},
		"long": {api.Msg{Topic: "a", Text: long[:4094]}, 0, api.ErrLong}, "long with a number": {api.Msg{Topic: "a", Text: long[:4092], Qos: 1}, 1, api.ErrLong},
	} {
		if b, e := Put(x.m, x.id); b != nil || e != x.e {
			t.Errorf("%s: %d bytes, %d, want %d", name, len(b), e, x.e)
		}
	}
	for qos, n := range []int{4093, 4091, 4091} {
		if b, e := Put(api.Msg{Topic: "a", Text: long[:n], Qos: qos}, min(qos, 1)); len(b) != 4096 || e != api.OK {
			t.Errorf("as many bytes as there may be: %d %d", len(b), e)
		}
	}
}

func TestOf(t *testing.T) {
	for _, x := range []struct {
		b   string
		qos int
		e   api.Errno
	}{
		{"", 3, api.ErrFlags}, {"\x00\x01a", -1, api.ErrFlags}, {"\x00\x01a", math.MaxInt, api.ErrFlags},
		{"", 0, api.ErrShort}, {"\x00\x02a", 0, api.ErrShort}, {"\x00\x01\x00", 0, api.ErrUtf}, {"\x00\x02#\xff", 0, api.ErrUtf},
		{"\x00\x00", 1, api.ErrTopic}, {"\x00\x01+", 1, api.ErrTopic}, {"\x00\x03a/#", 0, api.ErrTopic},
		{"\x00\x01a", 1, api.ErrShort}, {"\x00\x01a\x00", 2, api.ErrShort}, {"\x00\x01a\x00\x00", 1, api.ErrArg}, {"\x00\x01a\x00\x00x", 2, api.ErrArg},
	} {
		if m, id, e := Of(x.b, x.qos); m != (api.Msg{}) || id != 0 || e != x.e {
			t.Errorf("Of(%x, %d): %v %d %d, want %d", x.b, x.qos, m, id, e, x.e)
		}
	}
}

func TestWhatWasPutIsTold(t *testing.T) {
	for _, m := range []api.Msg{{Topic: "a"}, {Topic: "a/b", Text: "x", Qos: 1}, {Topic: "\u00e9", Text: "\x00\x00", Qos: 2}, {Topic: "/", Text: "\x00\x05"}} {
		for _, id := range []int{1, 256, 65535} {
			if m.Qos == 0 {
				id = 0
			}
			b, e := Put(m, id)
			if e != api.OK {
				t.Fatalf("Put(%v): %d", m, e)
			}
			if got, n, e := Of(string(b), m.Qos); got != m || n != id || e != api.OK {
				t.Errorf("%v: %v %d %d", m, got, n, e)
			}
		}
	}
	kept := api.Msg{Topic: "a", Retain: true}
	b, _ := Put(kept, 0)
	if got, _, _ := Of(string(b), 0); got.Retain {
		t.Error("Retain is not told")
	}
}

func TestId(t *testing.T) {
	for _, id := range []int{1, 2, 255, 256, 65535} {
		b, e := PutId(id)
		if e != api.OK || len(b) != 2 || int(b[0])*256+int(b[1]) != id {
			t.Errorf("PutId(%d): %x %d", id, b, e)
		}
		if got, e := OfId(string(b)); got != id || e != api.OK {
			t.Errorf("OfId(%x): %d %d", b, got, e)
		}
	}
	for _, id := range []int{math.MinInt, -1, 0, 65536, math.MaxInt} {
		if b, e := PutId(id); b != nil || e != api.ErrArg {
			t.Errorf("PutId(%d): %x %d", id, b, e)
		}
	}
	for b, want := range map[string]api.Errno{"": api.ErrForm, "\x01": api.ErrForm, "\x00\x00\x00": api.ErrForm, "\x00\x01\x00": api.ErrForm, "\x00\x00": api.ErrArg} {
		if id, e := OfId(b); id != 0 || e != want {
			t.Errorf("OfId(%x): %d %d", b, id, e)
		}
	}
}
