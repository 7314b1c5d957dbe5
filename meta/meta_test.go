package meta

import (
	"math"
	"strings"
	"testing"

	"crier/api"
	"crier/wire"
)

var full = api.Meta{Multi: true, Type: "t", Size: 300, Seq: math.MaxUint64, File: "f", Kind: "k", Md5: "m", Desc: "d"}

// singles are metas that have just one part.
func singles() []api.Meta {
	return []api.Meta{{Multi: true}, {Type: "t"}, {Size: 1}, {Seq: 1}, {File: "f"}, {Kind: "k"}, {Md5: "m"}, {Desc: "d"}}
}

func TestPut(t *testing.T) {
	for _, x := range []struct {
		m api.Meta
		b string
	}{
		{api.Meta{}, ""}, {api.Meta{Desc: "x"}, "\x42\x01x"},
		{full, "\x08\x01\x12\x01t\x18\xac\x02\x20\xff\xff\xff\xff\xff\xff\xff\xff\xff\x01\x2a\x01f\x32\x01k\x3a\x01m\x42\x01d"},
	} {
		if b, e := Put(x.m); string(b) != x.b || e != api.OK {
			t.Errorf("Put(%v): %x %d", x.m, b, e)
		}
	}
	long := strings.Repeat("x", api.MaxMessage-3)
	if b, e := Put(api.Meta{Md5: long}); len(b) != api.MaxMessage || e != api.OK {
		t.Errorf("as long as may be: %d %d", len(b), e)
	}
	if b, e := Put(api.Meta{Md5: long + "x"}); b != nil || e != api.ErrLong {
		t.Errorf("too long: %d %d", len(b), e)
	}
}

func TestOf(t *testing.T) {
	for _, x := range []struct {
		b string
		m api.Meta
	}{
		{"", api.Meta{}},
		{"\x08\x01\x08\x00", api.Meta{}}, {"\x42\x01x\x42\x00\x18\x05\x18\x06", api.Meta{Size: 6}},
		{"\x42\x01x\x08\x01", api.Meta{Desc: "x", Multi: true}},
		{"\x48\x05\x4d1234\x12\x01t\x0b\x0c", api.Meta{Type: "t"}}, // others tell nothing
	} {
		if m, e := Of([]byte(x.b)); m != x.m || e != api.OK {
			t.Errorf("Of(%x): %v %d", x.b, m, e)
		}
	}
}

func TestOfWrong(t *testing.T) {
	for _, x := range []struct {
		b string
		e api.Errno
	}{
		{"\x08", api.ErrShort}, {"\x0c", api.ErrForm}, {"\x0f", api.ErrKind}, {"\x00", api.ErrRange}, {strings.Repeat("\x08\x01", api.MaxFields+1), api.ErrFull},
		{"\x0a\x01x", api.ErrForm}, {"\x10\x01", api.ErrForm}, {"\x1a\x00", api.ErrForm}, {"\x221234", api.ErrShort}, {"\x22\x00", api.ErrForm}, {"\x28\x01", api.ErrForm}, {"\x30\x01", api.ErrForm}, {"\x38\x01", api.ErrForm}, {"\x40\x01", api.ErrForm},
		{"\x0d1234", api.ErrForm}, {"\x1912345678", api.ErrForm},
		{"\x08\x02", api.ErrRange}, {"\x08\xff\xff\xff\xff\xff\xff\xff\xff\xff\x01", api.ErrRange},
		{"\x08\x02\x10\x01", api.ErrRange}, {"\x10\x01\x08\x02", api.ErrForm}, {"\x08\x02\x08\x01", api.ErrRange}, {"\x08\x02\x0f", api.ErrKind},
	} {
		if m, e := Of([]byte(x.b)); m != (api.Meta{}) || e != x.e {
			t.Errorf("Of(%.20x): %v %d, want %d", x.b, m, e, x.e)
		}
	}
}

func TestWhatWasPutIsTold(t *testing.T) {
	for _, m := range append(singles(), full, api.Meta{}) {
		b, _ := Put(m)
		got, e := Of(b)
		if got != m || e != api.OK {
			t.Errorf("%v: %v %d", m, got, e)
		}
		l, _ := wire.Of(b)
		for i, j := 0, len(l)-1; i < j; i, j = i+1, j-1 {
			l[i], l[j] = l[j], l[i]
		}
		turned, _ := wire.Put(l)
		got, _ = Of(turned)
		if again, _ := Put(got); string(again) != string(b) {
			t.Errorf("%v is put in two ways: %x, %x", m, b, again)
		}
	}
}

func TestJoined(t *testing.T) {
	other := api.Meta{Multi: false, Type: "T", Size: 9, Seq: 8, File: "F", Kind: "K", Md5: "M", Desc: "D"}
	all := append(singles(), full, other, api.Meta{})
	for _, a := range all {
		for _, b := range all {
			x, _ := Put(a)
			y, _ := Put(b)
			want, _ := Of(append(x, y...))
			if got := Joined(a, b); got != want {
				t.Errorf("Joined(%v, %v): %v, want %v", a, b, got, want)
			}
		}
	}
	if got := Joined(full, api.Meta{Seq: 7}); got.Seq != 7 || got.Multi != true || got.Desc != "d" {
		t.Errorf("Joined: %v", got)
	}
}
