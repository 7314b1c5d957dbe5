package wire

import (
	"bytes"
	"math"
	"reflect"
	"strings"
	"testing"

	"crier/api"
)

func f(num, kind int, val uint64, text string) api.Field {
	return api.Field{Num: num, Kind: kind, Val: val, Text: text}
}

func many(n int, x api.Field) []api.Field {
	l := make([]api.Field, n)
	for i := range l {
		l[i] = x
	}
	return l
}

func TestPut(t *testing.T) {
	for _, x := range []struct {
		l []api.Field
		b string
	}{
		{nil, ""},
		{[]api.Field{f(1, api.KVar, 300, "")}, "\x08\xac\x02"},
		{[]api.Field{f(2, api.KFix8, 258, "")}, "\x11\x02\x01\x00\x00\x00\x00\x00\x00"},
		{[]api.Field{f(3, api.KFix4, 1<<32-1, "")}, "\x1d\xff\xff\xff\xff"},
		{[]api.Field{f(4, api.KText, 0, "ab"), f(1, api.KVar, 0, "")}, "\x22\x02ab\x08\x00"},
		{[]api.Field{f(1<<29-1, api.KText, 0, "")}, "\xfa\xff\xff\xff\x0f\x00"},
	} {
		if b, e := Put(x.l); string(b) != x.b || e != api.OK {
			t.Errorf("Put(%v): %x %d", x.l, b, e)
		}
	}
}

func TestPutWrong(t *testing.T) {
	good := f(1, api.KVar, 1, "")
	for _, x := range []struct {
		l []api.Field
		e api.Errno
	}{
		{[]api.Field{f(0, 9, 1, "x")}, api.ErrRange}, {[]api.Field{f(-1, api.KVar, 1, "")}, api.ErrRange}, {[]api.Field{f(1<<29, api.KVar, 1, "")}, api.ErrRange},
		{[]api.Field{f(math.MinInt, api.KVar, 1, "")}, api.ErrRange}, {[]api.Field{f(math.MaxInt, api.KVar, 1, "")}, api.ErrRange},
		{[]api.Field{f(1, 3, 1, "x")}, api.ErrKind}, {[]api.Field{f(1, 4, 0, "")}, api.ErrKind}, {[]api.Field{f(1, 6, 0, "")}, api.ErrKind}, {[]api.Field{f(1, -1, 0, "")}, api.ErrKind}, {[]api.Field{f(1, 8, 0, "")}, api.ErrKind},
		{[]api.Field{f(1, api.KVar, 1, "x")}, api.ErrForm}, {[]api.Field{f(1, api.KFix4, 1<<32, "x")}, api.ErrForm}, {[]api.Field{f(1, api.KFix8, 1, "x")}, api.ErrForm}, {[]api.Field{f(1, api.KText, 1, "x")}, api.ErrForm},
		{[]api.Field{f(1, api.KFix4, 1<<32, "")}, api.ErrRange},
		{[]api.Field{good, f(1, api.KText, 1, ""), f(0, 0, 0, "")}, api.ErrForm},
		{append(many(api.MaxFields+1, good), f(1, 3, 0, "")), api.ErrKind},
		{many(api.MaxFields+1, good), api.ErrFull},
		{append(many(api.MaxFields, good), f(1, api.KText, 0, strings.Repeat("x", 5000))), api.ErrFull},
		{[]api.Field{f(1, api.KText, 0, strings.Repeat("x", api.MaxMessage-2))}, api.ErrLong},
		{append([]api.Field{f(1, api.KText, 0, strings.Repeat("x", api.MaxMessage-3))}, good), api.ErrLong},
	} {
		if b, e := Put(x.l); b != nil || e != x.e {
			t.Errorf("Put(%.60v): %d bytes, %d, want %d", x.l, len(b), e, x.e)
		}
	}
	if b, e := Put(many(api.MaxFields, good)); len(b) != 2*api.MaxFields || e != api.OK {
		t.Errorf("as many fields as there may be: %d bytes, %d", len(b), e)
	}
	if b, e := Put([]api.Field{f(1, api.KText, 0, strings.Repeat("x", api.MaxMessage-3))}); len(b) != api.MaxMessage || e != api.OK {
		t.Errorf("as many bytes as there may be: %d, %d", len(b), e)
	}
}

func TestOf(t *testing.T) {
	for _, x := range []struct {
		b string
		l []api.Field
	}{
		{"", nil},
		{"\x08\xac\x02", []api.Field{f(1, api.KVar, 300, "")}},
		{"\x88\x80\x00\xac\x82\x00", []api.Field{f(1, api.KVar, 300, "")}}, // needless bytes
		{"\x0b\x0c", nil},
		{"\x0b\x13\x08\x05\x1a\x01x\x21abcdefgh\x2dabcd\x14\x0c\x10\x07", []api.Field{f(2, api.KVar, 7, "")}},
		{"\x1a\x00", []api.Field{f(3, api.KText, 0, "")}},
		{"\xfd\xff\xff\xff\x0f\x01\x00\x00\x80", []api.Field{f(1<<29-1, api.KFix4, 1<<31+1, "")}},
		{strings.Repeat("\x0b", api.MaxNest) + strings.Repeat("\x0c", api.MaxNest) + "\x08\x01", []api.Field{f(1, api.KVar, 1, "")}},
	} {
		if l, e := Of([]byte(x.b)); len(l) != len(x.l) || len(l) > 0 && !reflect.DeepEqual(l, x.l) || e != api.OK {
			t.Errorf("Of(%x): %v %d, want %v", x.b, l, e, x.l)
		}
	}
}

func TestOfWrong(t *testing.T) {
	full := strings.Repeat("\x08\x01", api.MaxFields)
	for _, x := range []struct {
		b string
		e api.Errno
	}{
		{strings.Repeat("\x07", api.MaxMessage+1), api.ErrLong},
		{"\x80", api.ErrShort}, {strings.Repeat("\x80", 10), api.ErrLong}, {"\x08", api.ErrShort}, {"\x08\x80", api.ErrShort}, {"\x08" + strings.Repeat("\xff", 10), api.ErrLong},
		{"\x00\x01", api.ErrRange}, {"\x03", api.ErrRange}, {"\x04", api.ErrRange}, {"\x06", api.ErrRange}, {"\x80\x80\x80\x80\x10", api.ErrRange}, {"\x86\x80\x80\x80\x10", api.ErrRange}, {"\xf8\xff\xff\xff\xff\xff\xff\xff\xff\x01", api.ErrRange},
		{"\x0b\x00\x01\x0c", api.ErrRange},
		{"\x0e", api.ErrKind}, {"\x0f", api.ErrKind}, {"\x0b\x0e\x0c", api.ErrKind},
		{"\x09abcdefg", api.ErrShort}, {"\x0dabc", api.ErrShort}, {"\x0a", api.ErrShort}, {"\x0a\x03ab", api.ErrShort}, {"\x0a\xff\xff\xff\xff\xff\xff\xff\xff\xff\x01", api.ErrShort}, {"\x0a" + strings.Repeat("\xff", 10), api.ErrLong},
		{strings.Repeat("\x0b", api.MaxNest+1), api.ErrNest}, {strings.Repeat("\x0b", api.MaxNest), api.ErrShort},
		{"\x0c", api.ErrForm}, {"\x0b\x14", api.ErrForm}, {"\x0b\x0c\x0c", api.ErrForm}, {"\x0b", api.ErrShort}, {"\x0b\x08\x01", api.ErrShort}, {"\x0b\x13\x0c\x14", api.ErrForm},
		{full + "\x08\x01", api.ErrFull}, {full + "\x08", api.ErrShort}, {full + "\x0f", api.ErrKind}, {full + "\x0c", api.ErrForm},
		{"\x08\x01\x0f\x00", api.ErrKind}, {"\x08\x01\x00\x0f", api.ErrRange},
	} {
		if l, e := Of([]byte(x.b)); l != nil || e != x.e {
			t.Errorf("Of(%.40x): %v %d, want %d", x.b, l, e, x.e)
		}
	}
	group := "\x0b" + full + "\x08\x01\x0c" // what is in a group is not counted
	if l, e := Of([]byte(full + group)); len(l) != api.MaxFields || e != api.OK {
		t.Errorf("as many fields as there may be, and a group: %d %d", len(l), e)
	}
	if l, e := Of([]byte("\x0a\xfd\x1f" + strings.Repeat("x", api.MaxMessage-3))); len(l) != 1 || e != api.OK {
		t.Errorf("as many bytes as there may be: %d %d", len(l), e)
	}
}

func TestAllLast(t *testing.T) {
	l := []api.Field{f(1, 0, 5, ""), f(2, 2, 0, "a"), f(1, 2, 0, "b"), f(3, 0, 1, "")}
	if got := All(l, 1); !reflect.DeepEqual(got, []api.Field{l[0], l[2]}) {
		t.Errorf("All: %v", got)
	}
	got := All(l, 1)
	got[0].Val = 99
	if l[0].Val != 5 {
		t.Error("All shares with what was handed in")
	}
	if len(All(l, 4)) != 0 || len(All(nil, 1)) != 0 || len(All(l, -1)) != 0 {
		t.Error("All of none")
	}
	if x, ok := Last(l, 1); x != l[2] || !ok {
		t.Errorf("Last: %v %v", x, ok)
	}
	if x, ok := Last(l, 4); x != (api.Field{}) || ok {
		t.Errorf("Last of none: %v %v", x, ok)
	}
	if x, ok := Last(nil, 0); x != (api.Field{}) || ok {
		t.Errorf("Last of nothing: %v %v", x, ok)
	}
}

func TestWhatWasPutIsRead(t *testing.T) {
	a := []api.Field{f(1, api.KVar, math.MaxUint64, ""), f(9, api.KFix8, 1<<63, ""), f(9, api.KText, 0, "\x00\xff"), f(1<<20, api.KFix4, 7, "")}
	c := []api.Field{f(2, api.KText, 0, ""), f(1, api.KVar, 0, "")}
	x, _ := Put(a)
	y, _ := Put(c)
	before := bytes.Clone(x)
	for _, between := range []string{"", "\x0b\x0c", "\x13\x0b\x08\x05\x0c\x1a\x02ab\x14"} {
		l, e := Of([]byte(string(x) + between + string(y) + between))
		if !reflect.DeepEqual(l, append(append([]api.Field{}, a...), c...)) || e != api.OK {
			t.Errorf("with %x between: %v %d", between, l, e)
		}
	}
	if !bytes.Equal(x, before) {
		t.Error("Of changed its argument")
	}
}
