package dataset

import (
	"math"
	"reflect"
	"strings"
	"testing"

	"crier/api"
)

func num(n uint64) api.Value { return api.Value{K: api.VInt, N: n} }

func str(s string) api.Value { return api.Value{K: api.VText, S: s} }

func example() api.DataSet {
	return api.DataSet{
		Cols: []string{"a", "", "a"}, Types: []uint32{3, math.MaxUint32, 0},
		Rows: [][]api.Value{{num(5), str("x\x00"), {}}, {{K: api.VBool, N: 1}, {K: api.VDouble, N: 1 << 63}, {K: api.VLong, N: math.MaxUint64}}},
	}
}

// table has so many columns and rows.
func table(cols, rows int) api.DataSet {
	d := api.DataSet{Cols: make([]string, cols), Types: make([]uint32, cols)}
	for range rows {
		d.Rows = append(d.Rows, make([]api.Value, cols))
	}
	return d
}

const one = "\x08\x01\x12\x01a\x18\x03"

func TestPut(t *testing.T) {
	for _, x := range []struct {
		d api.DataSet
		b string
	}{
		{api.DataSet{}, ""},
		{api.DataSet{Cols: []string{"a"}, Types: []uint32{3}, Rows: [][]api.Value{{num(5)}}}, one + "\x22\x04\x0a\x02\x08\x05"},
		{api.DataSet{Cols: []string{"a", "b"}, Types: []uint32{0, 4}, Rows: [][]api.Value{{{}, str("z")}}}, "\x08\x02\x12\x01a\x12\x01b\x18\x00\x18\x04\x22\x07\x0a\x00\x0a\x03\x32\x01z"},
		{api.DataSet{Rows: [][]api.Value{{}, nil}}, "\x22\x00\x22\x00"},
	} {
		if b, e := Put(x.d); string(b) != x.b || e != api.OK {
			t.Errorf("Put(%v): %x %d", x.d, b, e)
		}
	}
}

func TestPutWrong(t *testing.T) {
	change := func(f func(d *api.DataSet)) api.DataSet {
		d := example()
		f(&d)
		return d
	}
	long := str(strings.Repeat("x", api.MaxMessage))
	for name, x := range map[string]struct {
		d api.DataSet
		e api.Errno
	}{
		"columns": {table(17, 0), api.ErrFull}, "rows": {table(1, 33), api.ErrFull},
		"full ahead of form": {change(func(d *api.DataSet) { d.Rows, d.Types = make([][]api.Value, 33), nil }), api.ErrFull},
		"types":              {change(func(d *api.DataSet) { d.Types = d.Types[:2] }), api.ErrForm},
		"types, too":         {change(func(d *api.DataSet) { d.Cols = nil }), api.ErrForm},
		"narrow":             {change(func(d *api.DataSet) { d.Rows[1] = d.Rows[1][:2] }), api.ErrForm},
		"wide":               {change(func(d *api.DataSet) { d.Rows[1] = append(d.Rows[1], num(1)) }), api.ErrForm},
		"very wide":          {change(func(d *api.DataSet) { d.Rows[0] = make([]api.Value, 40) }), api.ErrForm},
		"row by row":         {change(func(d *api.DataSet) { d.Rows[0][2].K, d.Rows[1] = 99, nil }), api.ErrKind},
		"bytes":              {change(func(d *api.DataSet) { d.Rows[1][2] = api.Value{K: api.VBytes, S: "x"} }), api.ErrKind},
		"range":              {change(func(d *api.DataSet) { d.Rows[0][0].N = 1 << 32 }), api.ErrRange},
		"form":               {change(func(d *api.DataSet) { d.Rows[0][0].S = "x" }), api.ErrForm},
		"value by value":     {change(func(d *api.DataSet) { d.Rows[0][0], d.Rows[0][1].K = long, 99 }), api.ErrLong},
		"long name":          {change(func(d *api.DataSet) { d.Cols[0] = long.S }), api.ErrLong},
		"long row": {change(func(d *api.DataSet) {
			d.Rows[0] = []api.Value{str(long.S[:2000]), str(long.S[:2000]), str(long.S[:2000])}
		}), api.ErrLong},
	} {
		if b, e := Put(x.d); b != nil || e != x.e {
			t.Errorf("%s: %d bytes, %d, want %d", name, len(b), e, x.e)
		}
	}
	for _, d := range []api.DataSet{table(16, 32), table(0, 32)} {
		if _, e := Put(d); e != api.OK {
			t.Errorf("as much as there may be: %d", e)
		}
	}
}

func TestOf(t *testing.T) {
	want := api.DataSet{Cols: []string{"a"}, Types: []uint32{3}, Rows: [][]api.Value{{num(6)}}}
	for _, b := range []string{one + "\x22\x06\x0a\x04\x08\x05\x08\x06", "\x22\x09\x15zzzz\x0a\x02\x08\x06" + "\x18\x03\x08\x07\x12\x01a\x28\x05\x08\x01"} {
		if d, e := Of([]byte(b)); !Same(d, want) || e != api.OK {
			t.Errorf("Of(%x): %v %d", b, d, e)
		}
	}
	for _, b := range []string{"", "\x08\x00", "\x08\x05\x08\x00"} {
		if d, e := Of([]byte(b)); !Same(d, api.DataSet{}) || e != api.OK {
			t.Errorf("Of(%x): %v %d", b, d, e)
		}
	}
}

func TestOfWrong(t *testing.T) {
	for name, x := range map[string]struct {
		b string
		e api.Errno
	}{
		"wire": {"\x08", api.ErrShort}, "count's kind": {"\x0a\x00", api.ErrForm}, "name's kind": {"\x10\x01", api.ErrForm}, "type's kind": {"\x1a\x00", api.ErrForm}, "row's kind": {"\x20\x00", api.ErrForm},
		"type": {"\x18\x80\x80\x80\x80\x10", api.ErrRange}, "in order": {"\x18\x80\x80\x80\x80\x10\x0a\x00", api.ErrRange}, "in order, too": {"\x0a\x00\x18\x80\x80\x80\x80\x10", api.ErrForm},
		"columns": {strings.Repeat("\x12\x00", 17), api.ErrFull}, "types": {strings.Repeat("\x18\x00", 17), api.ErrFull}, "rows": {strings.Repeat("\x22\x00", 33), api.ErrFull}, "range ahead of full": {strings.Repeat("\x22\x00", 33) + "\x18\x80\x80\x80\x80\x10", api.ErrRange},
		"more types": {one + "\x18\x03", api.ErrForm}, "fewer types": {"\x08\x01\x12\x01a", api.ErrForm}, "no count": {one[2:], api.ErrForm}, "count": {one + "\x08\x02", api.ErrForm}, "count of none": {"\x08\x01", api.ErrForm}, "great count": {"\x08\xff\xff\xff\xff\xff\xff\xff\xff\xff\x01", api.ErrForm},
		"row's wire": {one + "\x22\x01\x0f", api.ErrKind}, "cell's kind": {one + "\x22\x02\x08\x01", api.ErrForm}, "narrow": {one + "\x22\x00", api.ErrForm}, "wide": {one + "\x22\x04\x0a\x00\x0a\x00", api.ErrForm}, "very wide": {one + "\x22\x28" + strings.Repeat("\x0a\x00", 20), api.ErrForm},
		"cell's wire": {one + "\x22\x03\x0a\x01\x08", api.ErrShort}, "value's kind": {one + "\x22\x04\x0a\x02\x0a\x00", api.ErrForm}, "value": {one + "\x22\x04\x0a\x02\x28\x02", api.ErrRange},
		"row by row": {one + "\x22\x04\x0a\x02\x28\x02\x22\x00", api.ErrRange}, "wide ahead of cells": {one + "\x22\x05\x0a\x01\x08\x0a\x00", api.ErrForm},
	} {
		if d, e := Of([]byte(x.b)); !reflect.DeepEqual(d, api.DataSet{}) || e != x.e {
			t.Errorf("%s: Of(%x): %v %d, want %d", name, x.b, d, e, x.e)
		}
	}
}

func TestCellColumn(t *testing.T) {
	d := example()
	d.Rows = append(d.Rows, []api.Value{num(7)})
	for _, x := range []struct {
		row, col int
		v        api.Value
		ok       bool
	}{
		{0, 0, num(5), true}, {1, 2, api.Value{K: api.VLong, N: math.MaxUint64}, true}, {0, 2, api.Value{}, true}, {2, 0, num(7), true},
		{2, 1, api.Value{}, false}, {3, 0, api.Value{}, false}, {0, 3, api.Value{}, false}, {-1, 0, api.Value{}, false}, {0, -1, api.Value{}, false}, {math.MaxInt, math.MinInt, api.Value{}, false},
	} {
		if v, ok := Cell(d, x.row, x.col); v != x.v || ok != x.ok {
			t.Errorf("Cell(%d, %d): %v %v", x.row, x.col, v, ok)
		}
	}
	if Column(d, "a") != 0 || Column(d, "") != 1 || Column(d, "b") != -1 || Column(api.DataSet{}, "") != -1 {
		t.Error("Column")
	}
}

func TestSame(t *testing.T) {
	if !Same(example(), example()) || !Same(api.DataSet{}, api.DataSet{Cols: []string{}, Rows: [][]api.Value{}}) || !Same(table(0, 1), api.DataSet{Rows: [][]api.Value{nil}}) {
		t.Error("Same of the same")
	}
	for i, change := range []func(d *api.DataSet){
		func(d *api.DataSet) { d.Cols[2] = "b" }, func(d *api.DataSet) { d.Types[0] = 4 }, func(d *api.DataSet) { d.Rows[1][0].N = 0 }, func(d *api.DataSet) { d.Rows[0][1].S = "y" },
		func(d *api.DataSet) { d.Rows[0][0].K = api.VLong }, func(d *api.DataSet) { d.Rows = d.Rows[:1] }, func(d *api.DataSet) { d.Rows[0] = d.Rows[0][:2] }, func(d *api.DataSet) { d.Cols = d.Cols[:2] }, func(d *api.DataSet) { d.Types = nil },
	} {
		d := example()
		change(&d)
		if Same(d, example()) || Same(example(), d) {
			t.Errorf("change %d is not seen", i)
		}
	}
}

func TestWhatWasPutIsTold(t *testing.T) {
	for _, d := range []api.DataSet{{}, example(), table(16, 32), table(0, 32), table(16, 0)} {
		b, e := Put(d)
		if e != api.OK {
			t.Fatalf("Put: %d", e)
		}
		if got, e := Of(b); !Same(got, d) || e != api.OK {
			t.Errorf("%v: %v %d", d, got, e)
		}
	}
	d := example()
	Put(d)
	if !reflect.DeepEqual(d, example()) {
		t.Error("Put changed its argument")
	}
}
