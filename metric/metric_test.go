package metric

import (
	"math"
	"reflect"
	"strings"
	"testing"

	"crier/api"
	"crier/wire"
)

func plain(name string, k int, n uint64, s string) api.Metric {
	return api.Metric{Name: name, V: api.Value{K: k, N: n, S: s}}
}

// holder is a metric whose template has these metrics.
func holder(l ...api.Metric) api.Metric {
	return api.Metric{Name: "t", V: api.Value{K: api.VTempl}, Templ: []api.Template{{Metrics: l}}}
}

// nested is a metric that is so deep.
func nested(deep int) api.Metric {
	m := plain("m", api.VInt, 1, "")
	for range deep - 1 {
		m = holder(m)
	}
	return m
}

func many[T any](n int, x T) []T {
	l := make([]T, n)
	for i := range l {
		l[i] = x
	}
	return l
}

func example() api.Metric {
	return api.Metric{
		Name: "n", HasAlias: true, Alias: math.MaxUint64, Time: 300, Type: math.MaxUint32, Hist: true, Trans: true, Null: true,
		Meta: []api.Meta{{Desc: "d"}}, Props: []api.Prop{{Key: "k", Type: 3, V: api.Value{K: api.VInt, N: 5}}},
		V: api.Value{K: api.VTempl},
		Templ: []api.Template{{
			Version: "v", Ref: "r", Def: true,
			Params: []api.Param{{Name: "p", Type: 7, V: api.Value{K: api.VText, S: "x"}}, {}, {V: api.Value{K: api.VBool}}},
			Metrics: []api.Metric{
				plain("a", api.VBytes, 0, "\x00"), {HasAlias: true}, holder(plain("", api.VDouble, 1<<63, "")),
				{V: api.Value{K: api.VData}, Set: []api.DataSet{{Cols: []string{"c"}, Types: []uint32{1}, Rows: [][]api.Value{{{K: api.VInt, N: 9}}}}}},
			},
		}},
	}
}

func TestPut(t *testing.T) {
	for _, x := range []struct {
		m api.Metric
		b string
	}{
		{api.Metric{}, ""}, {plain("a", api.VBool, 1, ""), "\x0a\x01a\x70\x01"},
		{api.Metric{HasAlias: true}, "\x10\x00"}, {api.Metric{Alias: 5}, ""},
		{api.Metric{Name: "n", HasAlias: true, Alias: 300, Time: 1, Type: 2, Hist: true, Trans: true, Null: true}, "\x0a\x01n\x10\xac\x02\x18\x01\x20\x02\x28\x01\x30\x01\x38\x01"},
		{plain("", api.VInt, 5, ""), "\x50\x05"}, {plain("", api.VLong, 5, ""), "\x58\x05"}, {plain("", api.VFloat, 5, ""), "\x65\x05\x00\x00\x00"}, {plain("", api.VDouble, 5, ""), "\x69\x05\x00\x00\x00\x00\x00\x00\x00"},
		{plain("", api.VText, 0, "x"), "\x7a\x01x"}, {plain("", api.VBytes, 0, "x"), "\x82\x01\x01x"},
		{api.Metric{Meta: []api.Meta{{}}, Props: []api.Prop{}}, "\x42\x00"},
		{api.Metric{Meta: []api.Meta{{Seq: 1}}, Props: []api.Prop{{Key: "k"}}}, "\x42\x02\x20\x01\x4a\x05\x0a\x01k\x12\x00"},
		{api.Metric{V: api.Value{K: api.VData}, Set: []api.DataSet{{Rows: [][]api.Value{{}}}}}, "\x8a\x01\x02\x22\x00"},
		{api.Metric{V: api.Value{K: api.VTempl}, Templ: []api.Template{{}}}, "\x92\x01\x00"},
		{holder(api.Metric{Null: true}, api.Metric{}), "\x0a\x01t\x92\x01\x06\x12\x02\x38\x01\x12\x00"},
	} {
		if b, e := Put(x.m); string(b) != x.b || e != api.OK {
			t.Errorf("Put(%v): %x %d", x.m, b, e)
		}
	}
	full := api.Template{Version: "v", Ref: "r", Def: true, Params: []api.Param{{Name: "p", Type: 3, V: api.Value{K: api.VInt, N: 1}}, {}}, Metrics: []api.Metric{{Name: "m"}}}
	if b, e := PutTemplate(full); string(b) != "\x0a\x01v\x12\x03\x0a\x01m\x1a\x07\x0a\x01p\x10\x03\x18\x01\x1a\x00\x22\x01r\x28\x01" || e != api.OK {
		t.Errorf("PutTemplate: %x %d", b, e)
	}
	if b, e := PutTemplate(api.Template{}); len(b) != 0 || e != api.OK {
		t.Errorf("PutTemplate of nothing: %x %d", b, e)
	}
}

func TestPutWrong(t *testing.T) {
	change := func(f func(m *api.Metric)) api.Metric {
		m := example()
		f(&m)
		return m
	}
	long := strings.Repeat("x", api.MaxMessage)
	badProps, badMeta := []api.Prop{{V: api.Value{K: 99}}}, []api.Meta{{Desc: long}}
	set := []api.DataSet{{Cols: many(17, "")}}
	for name, x := range map[string]struct {
		m api.Metric
		e api.Errno
	}{
		"deep": {nested(9), api.ErrNest},
		"deep, not right": {func() api.Metric {
			m := api.Metric{Meta: many(2, api.Meta{})}
			for range 8 {
				m = holder(m)
			}
			return m
		}(), api.ErrNest},
		"metas":                {api.Metric{Meta: many(2, api.Meta{}), Set: set}, api.ErrFull},
		"set of another kind":  {api.Metric{V: api.Value{K: api.VInt}, Set: set}, api.ErrForm},
		"set of a template":    {change(func(m *api.Metric) { m.Set = set }), api.ErrForm},
		"set of no kind":       {api.Metric{V: api.Value{K: 99}, Set: set}, api.ErrForm},
		"template of none":     {api.Metric{Templ: many(1, api.Template{})}, api.ErrForm},
		"template of a table":  {api.Metric{V: api.Value{K: api.VData}, Set: many(1, api.DataSet{}), Templ: many(1, api.Template{})}, api.ErrForm},
		"no set":               {api.Metric{V: api.Value{K: api.VData}}, api.ErrForm},
		"two sets":             {api.Metric{V: api.Value{K: api.VData}, Set: many(2, api.DataSet{})}, api.ErrForm},
		"no template":          {api.Metric{V: api.Value{K: api.VTempl}}, api.ErrForm},
		"two templates":        {api.Metric{V: api.Value{K: api.VTempl}, Templ: many(2, api.Template{})}, api.ErrForm},
		"table with a number":  {api.Metric{V: api.Value{K: api.VData, N: 1}, Set: set}, api.ErrForm},
		"template with a text": {change(func(m *api.Metric) { m.V.S = "x" }), api.ErrForm},
		"form ahead of meta":   {api.Metric{Meta: badMeta, Set: set}, api.ErrForm},
		"meta":                 {api.Metric{Meta: badMeta, Props: badProps}, api.ErrLong},
		"props":                {api.Metric{Props: badProps, V: api.Value{K: api.VBool, N: 2}}, api.ErrKind},
		"value":                {plain(long, api.VBool, 2, ""), api.ErrRange},
		"value's kind":         {plain("", 10, 0, ""), api.ErrKind},
		"value's form":         {plain("", api.VText, 1, ""), api.ErrForm},
		"table":                {api.Metric{V: api.Value{K: api.VData}, Set: set}, api.ErrFull},
		"long":                 {plain(long, api.VBool, 1, ""), api.ErrLong},
		"inner":                {holder(plain("", api.VBool, 2, ""), plain("", 99, 0, "")), api.ErrRange},
		"inner metrics":        {holder(many(65, plain("", 99, 0, ""))...), api.ErrFull},
	} {
		if b, e := Put(x.m); b != nil || e != x.e {
			t.Errorf("%s: %d bytes, %d, want %d", name, len(b), e, x.e)
		}
	}
	wrong := api.Param{V: api.Value{K: api.VBytes}}
	for name, x := range map[string]struct {
		t api.Template
		e api.Errno
	}{
		"metrics":                 {api.Template{Metrics: many(65, plain("", 99, 0, ""))}, api.ErrFull},
		"parameters":              {api.Template{Params: many(33, wrong)}, api.ErrFull},
		"metric ahead of another": {api.Template{Metrics: []api.Metric{{Meta: many(2, api.Meta{})}, plain("", 99, 0, "")}, Params: many(1, wrong)}, api.ErrFull},
		"metric ahead of params":  {api.Template{Metrics: []api.Metric{plain("", api.VBool, 2, "")}, Params: many(1, wrong)}, api.ErrRange},
		"parameter":               {api.Template{Version: long, Params: []api.Param{{}, wrong}}, api.ErrKind},
		"parameter's value":       {api.Template{Params: []api.Param{{Name: long, V: api.Value{K: api.VInt, N: 1 << 32}}}}, api.ErrRange},
		"parameter too long":      {api.Template{Params: []api.Param{{Name: long}, wrong}}, api.ErrLong},
		"long":                    {api.Template{Ref: long}, api.ErrLong},
		"deep":                    {api.Template{Metrics: []api.Metric{nested(9)}}, api.ErrNest},
	} {
		if b, e := PutTemplate(x.t); b != nil || e != x.e {
			t.Errorf("template, %s: %d bytes, %d, want %d", name, len(b), e, x.e)
		}
	}
	for _, m := range []api.Metric{nested(8), holder(many(64, api.Metric{})...)} {
		if _, e := Put(m); e != api.OK {
			t.Errorf("as much as there may be: %d", e)
		}
	}
	if _, e := PutTemplate(api.Template{Metrics: []api.Metric{nested(8)}, Params: many(32, api.Param{})}); e != api.OK {
		t.Errorf("as much as there may be of a template: %d", e)
	}
}

func TestOf(t *testing.T) {
	for _, x := range []struct {
		b string
		m api.Metric
	}{
		{"", api.Metric{}}, {"\x70\x01\x0a\x01a", plain("a", api.VBool, 1, "")}, {"\x10\x05\x10\x06\xa0\x01\x07\x0b\x0c", api.Metric{HasAlias: true, Alias: 6}},
		{"\x0a\x01a\x0a\x00\x18\x05\x18\x06\x20\x01\x20\x02\x28\x01\x28\x00\x30\x00\x30\x01\x38\x01\x38\x01", api.Metric{Time: 6, Type: 2, Trans: true, Null: true}},
		{"\x42\x01\xff\x42\x00\x4a\x01\xff\x4a\x00", api.Metric{Meta: []api.Meta{{}}}}, // only the last ones are read
		{"\x50\x05\x8a\x01\x01\xff\x92\x01\x01\xff\x7a\x01x", plain("", api.VText, 0, "x")},
		{"\x50\x05\x92\x01\x01\xff\x8a\x01\x01\xff\x8a\x01\x00", api.Metric{V: api.Value{K: api.VData}, Set: []api.DataSet{{}}}},
		{"\x50\x05\x8a\x01\x01\xff\x92\x01\x01\xff\x92\x01\x00", api.Metric{V: api.Value{K: api.VTempl}, Templ: []api.Template{{}}}},
	} {
		if m, e := Of([]byte(x.b)); !Same(m, x.m) || e != api.OK {
			t.Errorf("Of(%x): %v %d, want %v", x.b, m, e, x.m)
		}
	}
	want := api.Template{Version: "w", Ref: "s", Params: []api.Param{{Name: "q", Type: 4, V: api.Value{K: api.VInt, N: 2}}, {}}, Metrics: []api.Metric{{Name: "m"}, {}}}
	params := in(3, "\x0a\x01p\x10\x03\x18\x01\x0a\x01q\x10\x04\x18\x02\x48\x05") + in(3, "")
	b := "\x28\x01\x28\x00" + params + in(2, "\x0a\x01m") + in(2, "") + in(1, "v") + in(1, "w") + in(4, "r") + in(4, "s") + "\x38\x05"
	if got, e := OfTemplate([]byte(b)); !sameTemplate(got, want) || e != api.OK {
		t.Errorf("OfTemplate: %v %d", got, e)
	}
}

// in is a field of a number with these bytes.
func in(num int, b string) string {
	out, e := wire.Put([]api.Field{{Num: num, Kind: api.KText, Text: b}})
	if e != api.OK {
		panic(e)
	}
	return string(out)
}

func TestOfWrong(t *testing.T) {
	const great = "\x80\x80\x80\x80\x10"
	deep := "\x38\x01"
	for range 8 {
		deep = in(18, in(2, deep))
	}
	metrics := map[string]api.Errno{
		"\x08": api.ErrShort, "\x0f": api.ErrKind, strings.Repeat("x", api.MaxMessage+1): api.ErrLong,
		"\x08\x01": api.ErrForm, "\x12\x00": api.ErrForm, "\x1a\x00": api.ErrForm, "\x22\x00": api.ErrForm, "\x2a\x00": api.ErrForm, "\x32\x00": api.ErrForm, "\x3a\x00": api.ErrForm, "\x40\x00": api.ErrForm, "\x48\x00": api.ErrForm, "\x88\x01\x00": api.ErrForm, "\x90\x01\x00": api.ErrForm,
		"\x20" + great: api.ErrRange, "\x28\x02": api.ErrRange, "\x30\x02": api.ErrRange, "\x38\x02": api.ErrRange, "\x20" + great + "\x20\x01": api.ErrRange,
		"\x52\x00": api.ErrForm, "\x70\x02": api.ErrRange, "\x50" + great: api.ErrRange, "\x80\x01\x00": api.ErrForm,
		"\x70\x02\x08\x01": api.ErrRange, "\x08\x01\x70\x02": api.ErrForm, "\x28\x02\x70\x00\x52\x00": api.ErrRange,
		in(8, "\x08\x02") + in(9, "\xff"): api.ErrRange, in(8, "\x0f"): api.ErrKind, in(9, "\x0f"): api.ErrKind, in(9, "\x0a\x00") + in(17, "\x0f"): api.ErrForm, in(8, "\x0f") + "\x38\x02": api.ErrRange,
		in(17, "\x0a\x00"): api.ErrForm, in(17, "\x0f"): api.ErrKind, in(17, "\x0f") + in(8, "\x08\x02"): api.ErrRange,
		in(18, "\x0f"): api.ErrKind, in(18, "\x08\x01"): api.ErrForm, in(18, "\x10\x01"): api.ErrForm, in(18, "\x18\x01"): api.ErrForm, in(18, "\x20\x01"): api.ErrForm, in(18, "\x2a\x00"): api.ErrForm, in(18, "\x28\x02"): api.ErrRange, in(18, "\x28\x02\x08\x01"): api.ErrRange,
		in(18, strings.Repeat("\x12\x00", 65)): api.ErrFull, in(18, strings.Repeat("\x1a\x00", 33)): api.ErrFull, in(18, strings.Repeat("\x12\x00", 65)+"\x28\x02"): api.ErrRange,
		in(18, in(2, "\x38\x02")+in(2, "\x0f")): api.ErrRange, in(18, in(3, "\x0f")+in(2, "\x38\x02")): api.ErrRange,
		in(18, in(3, "\x0f")): api.ErrKind, in(18, in(3, "\x08\x01")): api.ErrForm, in(18, in(3, "\x12\x00")): api.ErrForm, in(18, in(3, "\x10"+great)): api.ErrRange, in(18, in(3, "\x38\x02")): api.ErrRange, in(18, in(3, "\x1a\x00")): api.ErrForm, in(18, in(3, "\x38\x02\x08\x01")): api.ErrForm,
		in(18, in(3, "\x38\x02")+in(3, "\x0f")): api.ErrRange,
		deep:                                    api.ErrNest,
	}
	for b, want := range metrics {
		if m, e := Of([]byte(b)); !reflect.DeepEqual(m, api.Metric{}) || e != want {
			t.Errorf("Of(%.40x): %v %d, want %d", b, m, e, want)
		}
	}
	for b, want := range map[string]api.Errno{"\x0f": api.ErrKind, "\x28\x02": api.ErrRange, in(2, deep): api.ErrNest, in(2, "\x08\x01"): api.ErrForm, in(3, "\x38\x02"): api.ErrRange, strings.Repeat("\x12\x00", 65): api.ErrFull} {
		if got, e := OfTemplate([]byte(b)); !reflect.DeepEqual(got, api.Template{}) || e != want {
			t.Errorf("OfTemplate(%.40x): %v %d, want %d", b, got, e, want)
		}
	}
}

func TestDepth(t *testing.T) {
	both := holder(nested(3), api.Metric{}, nested(5))
	twice := both
	twice.Templ = append(twice.Templ, api.Template{Metrics: []api.Metric{nested(7)}})
	for _, x := range []struct {
		m    api.Metric
		deep int
	}{{api.Metric{}, 1}, {nested(1), 1}, {holder(), 1}, {nested(8), 8}, {nested(12), 12}, {both, 6}, {twice, 8}, {nested(20000), 20000}} {
		if d := Depth(x.m); d != x.deep {
			t.Errorf("Depth: %d, want %d", d, x.deep)
		}
	}
}

func TestSame(t *testing.T) {
	if !Same(example(), example()) || !Same(api.Metric{}, api.Metric{Meta: []api.Meta{}, Props: []api.Prop{}, Set: []api.DataSet{}, Templ: []api.Template{}}) {
		t.Error("Same of the same")
	}
	for i, change := range []func(m *api.Metric){
		func(m *api.Metric) { m.Name = "" }, func(m *api.Metric) { m.HasAlias = false }, func(m *api.Metric) { m.Alias = 0 }, func(m *api.Metric) { m.Time = 0 }, func(m *api.Metric) { m.Type = 0 },
		func(m *api.Metric) { m.Hist = false }, func(m *api.Metric) { m.Trans = false }, func(m *api.Metric) { m.Null = false }, func(m *api.Metric) { m.Meta[0].Seq = 1 }, func(m *api.Metric) { m.Meta = nil },
		func(m *api.Metric) { m.Props[0].Key = "" }, func(m *api.Metric) { m.V.K = 0 }, func(m *api.Metric) { m.Set = many(1, api.DataSet{}) }, func(m *api.Metric) { m.Templ = nil },
		func(m *api.Metric) { m.Templ[0].Version = "" }, func(m *api.Metric) { m.Templ[0].Ref = "" }, func(m *api.Metric) { m.Templ[0].Def = false }, func(m *api.Metric) { m.Templ[0].Params[0].Type = 0 }, func(m *api.Metric) { m.Templ[0].Params = m.Templ[0].Params[:2] },
		func(m *api.Metric) { m.Templ[0].Metrics[0].V.S = "" }, func(m *api.Metric) { m.Templ[0].Metrics[2].Templ[0].Metrics[0].V.N = 0 }, func(m *api.Metric) { m.Templ[0].Metrics[3].Set[0].Rows[0][0].N = 0 },
	} {
		m := example()
		change(&m)
		if Same(m, example()) || Same(example(), m) {
			t.Errorf("change %d is not seen", i)
		}
	}
}

func TestWhatWasPutIsTold(t *testing.T) {
	for _, m := range []api.Metric{{}, example(), nested(8), plain("a", api.VBool, 1, ""), holder(many(64, api.Metric{})...)} {
		b, e := Put(m)
		if e != api.OK {
			t.Fatalf("Put: %d", e)
		}
		if got, e := Of(b); !Same(got, m) || e != api.OK {
			t.Errorf("%v: %v %d", m, got, e)
		}
		inside := api.Template{Metrics: []api.Metric{m}}
		b, _ = PutTemplate(inside)
		if got, e := OfTemplate(b); !sameTemplate(got, inside) || e != api.OK {
			t.Errorf("within a template %v: %v %d", m, got, e)
		}
	}
	full := api.Template{Metrics: many(64, api.Metric{}), Params: many(32, api.Param{Type: 1})}
	b, _ := PutTemplate(full)
	if got, e := OfTemplate(b); !sameTemplate(got, full) || e != api.OK {
		t.Errorf("a full template: %d", e)
	}
	m := example()
	Put(m)
	if !reflect.DeepEqual(m, example()) {
		t.Error("Put changed its argument")
	}
}
