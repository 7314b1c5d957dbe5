package props

import (
	"math"
	"reflect"
	"strings"
	"testing"

	"crier/api"
)

func set(key string, sub ...api.Prop) api.Prop {
	return api.Prop{Key: key, V: api.Value{K: api.VSet}, Sub: sub}
}

func plain(key string, k int, n uint64, s string) api.Prop {
	return api.Prop{Key: key, V: api.Value{K: k, N: n, S: s}}
}

// nested is a list that is so deep; the deepest has the properties l.
func nested(deep int, l ...api.Prop) []api.Prop {
	for range deep - 1 {
		l = []api.Prop{set("s", l...)}
	}
	return l
}

func many(n int, p api.Prop) []api.Prop {
	l := make([]api.Prop, n)
	for i := range l {
		l[i] = p
	}
	return l
}

func example() []api.Prop {
	return []api.Prop{
		{Key: "a", Type: 7, Null: true, V: api.Value{K: api.VLong, N: math.MaxUint64}},
		set("b", plain("", api.VText, 0, "x\x00"), set("c"), set("d", plain("e", api.VBool, 1, ""))),
		plain("a", api.VNone, 0, ""), plain("f", api.VFloat, 5, ""), plain("g", api.VDouble, 6, ""), {Key: "h", Type: math.MaxUint32},
	}
}

func TestPut(t *testing.T) {
	for _, x := range []struct {
		l []api.Prop
		b string
	}{
		{nil, ""},
		{[]api.Prop{plain("a", api.VInt, 5, "")}, "\x0a\x01a\x12\x02\x18\x05"},
		{[]api.Prop{{Key: "a", Type: 3, Null: true, V: api.Value{K: api.VText, S: "t"}}, plain("", api.VNone, 0, "")}, "\x0a\x01a\x0a\x00\x12\x07\x08\x03\x10\x01\x42\x01t\x12\x00"},
		{[]api.Prop{set("s", plain("a", api.VInt, 5, ""))}, "\x0a\x01s\x12\x09\x4a\x07\x0a\x01a\x12\x02\x18\x05"},
		{[]api.Prop{set("s")}, "\x0a\x01s\x12\x02\x4a\x00"},
	} {
		if b, e := Put(x.l); string(b) != x.b || e != api.OK {
			t.Errorf("Put(%v): %x %d", x.l, b, e)
		}
	}
}

func TestPutWrong(t *testing.T) {
	ok := plain("k", api.VInt, 1, "")
	long := plain("k", api.VText, 0, strings.Repeat("x", api.MaxMessage))
	withSub := ok
	withSub.Sub = []api.Prop{ok}
	noneSub := api.Prop{Sub: []api.Prop{ok}}
	numbered, worded := set("s"), set("s")
	numbered.V.N, worded.V.S = 1, "x"
	for name, x := range map[string]struct {
		l []api.Prop
		e api.Errno
	}{
		"deep":                  {nested(9, ok), api.ErrNest},
		"deep and empty":        {nested(9), api.ErrNest},
		"deep and full":         {nested(9, many(33, ok)...), api.ErrNest},
		"full":                  {many(33, withSub), api.ErrFull},
		"full within":           {nested(3, many(33, ok)...), api.ErrFull},
		"sub of another kind":   {[]api.Prop{withSub}, api.ErrForm},
		"sub of none":           {[]api.Prop{noneSub}, api.ErrForm},
		"set with a number":     {[]api.Prop{numbered}, api.ErrForm},
		"set with a text":       {nested(8, worded), api.ErrForm},
		"kind":                  {[]api.Prop{plain("k", 99, 0, "")}, api.ErrKind},
		"bytes":                 {[]api.Prop{plain("k", api.VBytes, 0, "x")}, api.ErrKind},
		"kind with a sub":       {[]api.Prop{{V: api.Value{K: 99}, Sub: []api.Prop{ok}}}, api.ErrForm},
		"range":                 {[]api.Prop{plain("k", api.VBool, 2, "")}, api.ErrRange},
		"value's form":          {[]api.Prop{plain("k", api.VInt, 1, "x")}, api.ErrForm},
		"long value":            {[]api.Prop{long, plain("k", 99, 0, "")}, api.ErrLong},
		"long list":             {many(32, plain("k", api.VText, 0, strings.Repeat("x", 200))), api.ErrLong},
		"long key":              {[]api.Prop{plain(strings.Repeat("x", api.MaxMessage), api.VInt, 1, "")}, api.ErrLong},
		"first one by one":      {[]api.Prop{plain("k", api.VBool, 2, ""), set("s", nested(8, ok)...)}, api.ErrRange},
		"first one by one, too": {[]api.Prop{set("s", nested(8, ok)...), plain("k", api.VBool, 2, "")}, api.ErrNest},
		"sub ahead of the next": {[]api.Prop{set("s", plain("k", 99, 0, "")), withSub}, api.ErrKind},
	} {
		if b, e := Put(x.l); b != nil || e != x.e {
			t.Errorf("%s: %d bytes, %d, want %d", name, len(b), e, x.e)
		}
	}
	for _, l := range [][]api.Prop{nested(8, ok), nested(8), many(32, ok), nested(3, many(32, ok)...)} {
		if _, e := Put(l); e != api.OK {
			t.Errorf("as much as there may be: %d", e)
		}
	}
}

func TestOf(t *testing.T) {
	for _, x := range []struct {
		b string
		l []api.Prop
	}{
		{"", nil},
		{"\x12\x02\x18\x05\x0a\x01a", []api.Prop{plain("a", api.VInt, 5, "")}},
		{"\x0a\x01a\x18\x01\x12\x00\x5d1234", []api.Prop{plain("a", api.VNone, 0, "")}},
		{"\x0a\x01a\x12\x0c\x08\x01\x08\x02\x10\x01\x10\x00\x4a\x00\x18\x05", []api.Prop{{Key: "a", Type: 2, V: api.Value{K: api.VInt, N: 5}}}},
		{"\x0a\x01a\x12\x04\x18\x05\x4a\x00", []api.Prop{set("a")}},
		{"\x0a\x01a\x12\x04\x50\x05\x5a\x00", []api.Prop{plain("a", api.VNone, 0, "")}},
		{"\x0a\x01a\x12\x05\x4a\x01\xff\x38\x00", []api.Prop{plain("a", api.VBool, 0, "")}}, // a set that does not count is not read
	} {
		if l, e := Of([]byte(x.b)); !Same(l, x.l) || e != api.OK {
			t.Errorf("Of(%x): %v %d, want %v", x.b, l, e, x.l)
		}
	}
}

// valued is a list's bytes whose only property has these bytes as its value.
func valued(b string) string { return "\x0a\x00\x12" + string(rune(len(b))) + b }

func TestOfWrong(t *testing.T) {
	deep := ""
	for range 9 {
		deep = valued("\x4a" + string(rune(len(deep))) + deep)
	}
	for name, x := range map[string]struct {
		b string
		e api.Errno
	}{
		"wire": {"\x0a", api.ErrShort}, "key's kind": {"\x08\x01", api.ErrForm}, "value's kind": {"\x12\x00\x0d1234", api.ErrForm}, "value's kind alone": {"\x0a\x00\x10\x01", api.ErrForm},
		"keys": {strings.Repeat("\x0a\x00", 33), api.ErrFull}, "values": {strings.Repeat("\x12\x00", 33), api.ErrFull}, "kind ahead of full": {strings.Repeat("\x0a\x00", 33) + "\x10\x00", api.ErrForm},
		"more keys": {"\x0a\x00\x0a\x00\x12\x00", api.ErrForm}, "more values": {"\x0a\x00\x12\x01\xff\x12\x00", api.ErrForm},
		"value's wire": {valued("\x18"), api.ErrShort}, "value's wire's kind": {valued("\x1f"), api.ErrKind},
		"type's kind": {valued("\x0a\x00"), api.ErrForm}, "type": {valued("\x08\x80\x80\x80\x80\x10"), api.ErrRange}, "type, not the last": {valued("\x08\x80\x80\x80\x80\x10\x08\x01"), api.ErrRange},
		"null's kind": {valued("\x12\x00"), api.ErrForm}, "null": {valued("\x10\x02"), api.ErrRange},
		"plain's kind": {valued("\x1a\x00"), api.ErrForm}, "plain": {valued("\x38\x02"), api.ErrRange}, "text's kind": {valued("\x40\x02"), api.ErrForm}, "set's kind": {valued("\x48\x02"), api.ErrForm},
		"in order": {valued("\x38\x02\x0a\x00"), api.ErrRange}, "in order, too": {valued("\x0a\x00\x38\x02"), api.ErrForm}, "a set ahead of a wrong one": {valued("\x4a\x01\xff\x10\x02"), api.ErrRange},
		"sub's": {valued("\x4a\x01\x0f"), api.ErrKind}, "one by one": {"\x0a\x00\x0a\x00\x12\x02\x10\x02\x12\x01\x18", api.ErrRange}, "deep": {deep, api.ErrNest},
	} {
		if l, e := Of([]byte(x.b)); l != nil || e != x.e {
			t.Errorf("%s: Of(%x): %v %d, want %d", name, x.b, l, e, x.e)
		}
	}
	if l, e := Of([]byte(strings.Repeat("\x0a\x00\x12\x00", 32))); len(l) != 32 || e != api.OK {
		t.Errorf("as many as there may be: %d %d", len(l), e)
	}
}

func TestDepth(t *testing.T) {
	ok := plain("k", api.VInt, 1, "")
	noSet := ok
	noSet.Sub = nested(5, ok)
	for _, x := range []struct {
		l    []api.Prop
		deep int
	}{{nil, 0}, {[]api.Prop{}, 0}, {[]api.Prop{ok}, 1}, {[]api.Prop{set("s")}, 2}, {[]api.Prop{set("s", ok), set("t", set("u"), ok), ok}, 3}, {nested(20, ok), 20}, {[]api.Prop{noSet}, 1}, {nested(60000, ok), 60000}} {
		if d := Depth(x.l); d != x.deep {
			t.Errorf("Depth: %d, want %d", d, x.deep)
		}
	}
}

func TestSame(t *testing.T) {
	if !Same(example(), example()) || !Same(nil, []api.Prop{}) || Same(example(), nil) || Same(example(), example()[:5]) {
		t.Error("Same")
	}
	empty := set("s")
	empty.Sub = []api.Prop{}
	if !Same([]api.Prop{set("s")}, []api.Prop{empty}) {
		t.Error("an empty Sub is as none")
	}
	for i, change := range []func(l []api.Prop){
		func(l []api.Prop) { l[0].Key = "z" }, func(l []api.Prop) { l[0].Type++ }, func(l []api.Prop) { l[0].Null = false }, func(l []api.Prop) { l[0].V.N-- },
		func(l []api.Prop) { l[1].Sub[0].V.S = "y" }, func(l []api.Prop) { l[1].Sub[2].Sub[0].V.K = api.VInt }, func(l []api.Prop) { l[3].V.K = api.VInt },
		func(l []api.Prop) { l[2].Sub = nested(1, set("q")) }, func(l []api.Prop) { l[0], l[1] = l[1], l[0] },
	} {
		l := example()
		change(l)
		if Same(l, example()) || Same(example(), l) {
			t.Errorf("change %d is not seen", i)
		}
	}
}

func TestWhatWasPutIsTold(t *testing.T) {
	ok := plain("k", api.VInt, 1, "")
	for _, l := range [][]api.Prop{nil, example(), nested(8, ok), nested(8), many(32, ok)} {
		b, e := Put(l)
		if e != api.OK {
			t.Fatalf("Put: %d", e)
		}
		got, e := Of(b)
		if !Same(got, l) || e != api.OK {
			t.Errorf("%v: %v %d", l, got, e)
		}
	}
	l := example()
	Put(l)
	if !reflect.DeepEqual(l, example()) {
		t.Error("Put changed its argument")
	}
}
