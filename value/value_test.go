package value

import (
	"math"
	"reflect"
	"testing"

	"crier/api"
)

func v(k int, n uint64, s string) api.Value { return api.Value{K: k, N: n, S: s} }

func f(num, kind int, val uint64, text string) api.Field {
	return api.Field{Num: num, Kind: kind, Val: val, Text: text}
}

// right are values that may be, each with its field from 10 on.
func right() map[api.Value]api.Field {
	return map[api.Value]api.Field{
		v(api.VInt, 0, ""):                 f(10, api.KVar, 0, ""),
		v(api.VInt, 1<<32-1, ""):           f(10, api.KVar, 1<<32-1, ""),
		v(api.VLong, math.MaxUint64, ""):   f(11, api.KVar, math.MaxUint64, ""),
		v(api.VFloat, 1<<32-1, ""):         f(12, api.KFix4, 1<<32-1, ""),
		v(api.VDouble, 0x7ff8<<48+1, ""):   f(13, api.KFix8, 0x7ff8<<48+1, ""),
		v(api.VBool, 0, ""):                f(14, api.KVar, 0, ""),
		v(api.VBool, 1, ""):                f(14, api.KVar, 1, ""),
		v(api.VText, 0, "a\x00\xff"):       f(15, api.KText, 0, "a\x00\xff"),
		v(api.VText, 0, ""):                f(15, api.KText, 0, ""),
		v(api.VBytes, 0, "b"):              f(16, api.KText, 0, "b"),
		v(api.VDouble, math.MaxUint64, ""): f(13, api.KFix8, math.MaxUint64, ""),
	}
}

// wrong are values that may not be, and why.
func wrong() map[api.Value]api.Errno {
	return map[api.Value]api.Errno{
		v(-1, 9, "x"): api.ErrKind, v(8, 0, ""): api.ErrKind, v(math.MaxInt, 0, ""): api.ErrKind, v(math.MinInt, 0, ""): api.ErrKind,
		v(api.VNone, 1, ""): api.ErrForm, v(api.VNone, 0, "x"): api.ErrForm, v(api.VInt, 1<<32, "x"): api.ErrForm, v(api.VLong, 0, "x"): api.ErrForm, v(api.VFloat, 0, "x"): api.ErrForm,
		v(api.VDouble, 0, "x"): api.ErrForm, v(api.VBool, 2, "x"): api.ErrForm, v(api.VText, 1, "x"): api.ErrForm, v(api.VBytes, 1, ""): api.ErrForm,
		v(api.VInt, 1<<32, ""): api.ErrRange, v(api.VFloat, 1<<32, ""): api.ErrRange, v(api.VBool, 2, ""): api.ErrRange, v(api.VBool, math.MaxUint64, ""): api.ErrRange,
	}
}

func TestRight(t *testing.T) {
	for x := range right() {
		if e := Right(x); e != api.OK {
			t.Errorf("Right(%v): %d", x, e)
		}
	}
	if e := Right(api.Value{}); e != api.OK {
		t.Errorf("Right of none: %d", e)
	}
	for x, want := range wrong() {
		if e := Right(x); e != want {
			t.Errorf("Right(%v): %d, want %d", x, e, want)
		}
	}
}

func TestPut(t *testing.T) {
	for x, want := range right() {
		if l, e := Put(x, 10, true); !reflect.DeepEqual(l, []api.Field{want}) || e != api.OK {
			t.Errorf("Put(%v): %v %d", x, l, e)
		}
		l, e := Put(x, 10, false)
		if x.K == api.VBytes && (l != nil || e != api.ErrKind) || x.K != api.VBytes && (len(l) != 1 || l[0] != want || e != api.OK) {
			t.Errorf("Put(%v) without raw: %v %d", x, l, e)
		}
	}
	for x, want := range wrong() {
		if l, e := Put(x, 1, true); l != nil || e != want {
			t.Errorf("Put(%v): %v %d", x, l, e)
		}
		if l, e := Put(x, 0, true); l != nil || e != api.ErrArg {
			t.Errorf("Put(%v) from 0 on: %v %d", x, l, e)
		}
	}
	if l, e := Put(v(api.VBytes, 1, ""), 1, false); l != nil || e != api.ErrForm {
		t.Errorf("Right's error comes first: %v %d", l, e)
	}
	if l, e := Put(api.Value{}, 1000, false); len(l) != 0 || e != api.OK {
		t.Errorf("Put of none: %v %d", l, e)
	}
	for base, want := range map[int]api.Errno{-1: api.ErrArg, 0: api.ErrArg, 1: api.OK, 1000: api.OK, 1001: api.ErrArg, math.MaxInt: api.ErrArg, math.MinInt: api.ErrArg} {
		if _, e := Put(v(api.VInt, 1, ""), base, true); e != want {
			t.Errorf("Put from %d on: %d", base, e)
		}
		if _, e := Of(nil, base, true); e != want {
			t.Errorf("Of from %d on: %d", base, e)
		}
	}
}

func TestOf(t *testing.T) {
	other := []api.Field{f(9, api.KText, 0, "x"), f(17, api.KFix4, 0, ""), f(-5, 9, 1, "y")}
	for x, field := range right() {
		l := append(append([]api.Field{}, other...), f(14, api.KVar, 1, ""), f(15, api.KText, 0, "ahead"), field)
		l = append(l, other...)
		if got, e := Of(l, 10, true); got != x || e != api.OK {
			t.Errorf("Of: %v %d, want %v", got, e, x)
		}
		if x.K == api.VBytes {
			x = v(api.VText, 0, "ahead")
		}
		if got, e := Of(l, 10, false); got != x || e != api.OK {
			t.Errorf("Of without raw: %v %d, want %v", got, e, x)
		}
	}
	if got, e := Of(other, 10, true); got != (api.Value{}) || e != api.OK {
		t.Errorf("Of no value's fields: %v %d", got, e)
	}
}

// A field's Val and Text are the value's N and S whatever its kind, also where no value of that kind may have both.
func TestOfTellsTheWholeField(t *testing.T) {
	const most = math.MaxUint64
	for _, x := range []struct {
		l    []api.Field
		want api.Value
	}{
		{[]api.Field{f(10, api.KVar, 7, "x")}, v(api.VInt, 7, "x")},
		{[]api.Field{f(11, api.KVar, most, "x")}, v(api.VLong, most, "x")},
		{[]api.Field{f(12, api.KFix4, 1<<32-1, "x")}, v(api.VFloat, 1<<32-1, "x")},
		{[]api.Field{f(13, api.KFix8, most, "x")}, v(api.VDouble, most, "x")},
		{[]api.Field{f(14, api.KVar, 1, "x")}, v(api.VBool, 1, "x")},
		{[]api.Field{f(15, api.KText, 7, "x")}, v(api.VText, 7, "x")},
		{[]api.Field{f(15, api.KText, most, "")}, v(api.VText, most, "")},
		{[]api.Field{f(16, api.KText, most, "x")}, v(api.VBytes, most, "x")},
		{[]api.Field{f(15, api.KText, 7, "x"), f(10, api.KVar, 1, "")}, v(api.VInt, 1, "")},
	} {
		if got, e := Of(x.l, 10, true); got != x.want || e != api.OK {
			t.Errorf("Of(%v): %v %d, want %v", x.l, got, e, x.want)
		}
	}
	for _, l := range [][]api.Field{{f(10, api.KVar, 1<<32, "x")}, {f(12, api.KFix4, 1<<32, "x")}, {f(14, api.KVar, 2, "x")}} {
		if got, e := Of(l, 10, true); got != (api.Value{}) || e != api.ErrRange {
			t.Errorf("Of(%v): %v %d", l, got, e)
		}
	}
}

func TestOfWrong(t *testing.T) {
	for _, x := range []struct {
		l []api.Field
		e api.Errno
	}{
		{[]api.Field{f(10, api.KText, 0, "")}, api.ErrForm}, {[]api.Field{f(11, api.KFix8, 0, "")}, api.ErrForm}, {[]api.Field{f(12, api.KVar, 0, "")}, api.ErrForm}, {[]api.Field{f(13, api.KFix4, 0, "")}, api.ErrForm},
		{[]api.Field{f(14, api.KFix4, 0, "")}, api.ErrForm}, {[]api.Field{f(15, api.KVar, 0, "")}, api.ErrForm}, {[]api.Field{f(16, api.KVar, 0, "")}, api.ErrForm},
		{[]api.Field{f(10, api.KVar, 1<<32, "")}, api.ErrRange}, {[]api.Field{f(12, api.KFix4, 1<<32, "")}, api.ErrRange}, {[]api.Field{f(14, api.KVar, 2, "")}, api.ErrRange},
		{[]api.Field{f(14, api.KVar, 2, ""), f(10, api.KText, 0, "")}, api.ErrRange}, {[]api.Field{f(10, api.KText, 0, ""), f(14, api.KVar, 2, "")}, api.ErrForm},
		{[]api.Field{f(10, api.KVar, 1<<32, ""), f(10, api.KVar, 1, "")}, api.ErrRange},
	} {
		if got, e := Of(x.l, 10, true); got != (api.Value{}) || e != x.e {
			t.Errorf("Of(%v): %v %d, want %d", x.l, got, e, x.e)
		}
	}
	if got, e := Of([]api.Field{f(16, api.KVar, 0, "")}, 10, false); got != (api.Value{}) || e != api.OK {
		t.Errorf("without raw the seventh is no value's: %v %d", got, e)
	}
}

func TestZero(t *testing.T) {
	for x, want := range map[api.Value]bool{
		{}: true, v(api.VNone, 5, "x"): true, v(api.VInt, 0, ""): true, v(api.VText, 0, ""): true, v(99, 0, ""): true,
		v(api.VInt, 1, ""): false, v(api.VText, 0, "x"): false, v(api.VDouble, 1<<63, ""): false, v(api.VInt, 0, "x"): false, v(99, 1, ""): false,
	} {
		if Zero(x) != want {
			t.Errorf("Zero(%v): %v", x, !want)
		}
	}
}
