package items

import (
	"math"
	"reflect"
	"strconv"
	"testing"

	"crier/alias"
	"crier/api"
)

func num(name string, n uint64) api.Metric {
	return api.Metric{Name: name, Type: 3, V: api.Value{K: api.VInt, N: n}}
}

func by(alias uint64, n uint64) api.Metric {
	return api.Metric{HasAlias: true, Alias: alias, V: api.Value{K: api.VInt, N: n}}
}

func item(name string, n uint64) api.Item {
	return api.Item{Name: name, Type: 3, V: api.Value{K: api.VInt, N: n}}
}

func TestOf(t *testing.T) {
	m := api.Metric{Name: "n", HasAlias: true, Alias: math.MaxUint64, Time: 5, Type: 7, Hist: true, Trans: true, Null: true, Meta: []api.Meta{{}}, Props: []api.Prop{{}}, V: api.Value{K: api.VText, S: "x"}}
	if got := Of(m); got != (api.Item{Name: "n", HasAlias: true, Alias: math.MaxUint64, Type: 7, Null: true, V: api.Value{K: api.VText, S: "x"}}) {
		t.Errorf("Of: %v", got)
	}
	for _, k := range []int{api.VData, api.VTempl} {
		m.V = api.Value{K: k, N: 5, S: "junk"}
		if got := Of(m); got.V != (api.Value{K: k}) {
			t.Errorf("Of a value that is not plain: %v", got)
		}
	}
	if got := Of(api.Metric{V: api.Value{K: 99, N: 1}}); got.V != (api.Value{K: 99, N: 1}) {
		t.Errorf("Of a value that can't be: %v", got)
	}
}

func TestBorn(t *testing.T) {
	var many []api.Metric
	for i := range api.MaxItems {
		many = append(many, num("n"+strconv.Itoa(i), uint64(i)))
	}
	for name, x := range map[string]struct {
		l    []api.Metric
		code int
	}{
		"none": {nil, api.ROk}, "two": {[]api.Metric{num("a", 1), num("b", 1)}, api.ROk}, "many": {many, api.ROk}, "aliases may clash here": {[]api.Metric{{Name: "a", HasAlias: true}, {Name: "b", HasAlias: true}}, api.ROk},
		"full": {append(many[:32:32], num("", 1)), api.RFull}, "name": {[]api.Metric{num("a", 1), by(1, 1), num("a", 2)}, api.RName}, "clash": {[]api.Metric{num("a", 1), num("b", 1), num("a", 2), num("", 1)}, api.RClash},
	} {
		l, code := Born(x.l)
		if code != x.code || code != api.ROk && l != nil || code == api.ROk && len(l) != len(x.l) {
			t.Errorf("%s: %v %d, want %d", name, l, code, x.code)
		}
		for i := range l {
			if l[i] != Of(x.l[i]) {
				t.Errorf("%s: %v", name, l)
			}
		}
	}
}

func table(t *testing.T) *alias.Table {
	t.Helper()
	x := alias.New()
	if x.Set("", []api.Item{{Name: "a", HasAlias: true, Alias: 1}, {Name: "z", HasAlias: true, Alias: 2}}) != api.OK || x.Set("d", []api.Item{{Name: "b", HasAlias: true, Alias: 3}, {HasAlias: true, Alias: 4}}) != api.OK {
		t.Fatal("Set")
	}
	return x
}

func TestUpdate(t *testing.T) {
	l := func() []api.Item { return []api.Item{item("a", 1), item("b", 2), item("a", 3), item("", 4)} }
	null := num("b", 7)
	null.Null, null.Type, null.HasAlias, null.Alias = true, 99, true, 77
	data := api.Metric{Name: "b", V: api.Value{K: api.VData, N: 5, S: "junk"}}
	for name, x := range map[string]struct {
		m     []api.Metric
		owner string
		want  []api.Item
		code  int
	}{
		"nothing":             {nil, "", l(), api.ROk},
		"by name":             {[]api.Metric{num("b", 5)}, "", []api.Item{item("a", 1), item("b", 5), item("a", 3), item("", 4)}, api.ROk},
		"the first one":       {[]api.Metric{num("a", 5)}, "", []api.Item{item("a", 5), item("b", 2), item("a", 3), item("", 4)}, api.ROk},
		"by alias":            {[]api.Metric{by(1, 6)}, "", []api.Item{item("a", 6), item("b", 2), item("a", 3), item("", 4)}, api.ROk},
		"another owner's":     {[]api.Metric{by(3, 6)}, "d", []api.Item{item("a", 1), item("b", 6), item("a", 3), item("", 4)}, api.ROk},
		"alias of no name":    {[]api.Metric{by(4, 6)}, "d", []api.Item{item("a", 1), item("b", 2), item("a", 3), item("", 6)}, api.ROk},
		"the last one counts": {[]api.Metric{num("b", 5), null}, "", []api.Item{item("a", 1), {Name: "b", Type: 3, Null: true, V: api.Value{K: api.VInt, N: 7}}, item("a", 3), item("", 4)}, api.ROk},
		"no more null":        {[]api.Metric{null, num("b", 8)}, "", []api.Item{item("a", 1), item("b", 8), item("a", 3), item("", 4)}, api.ROk},
		"a table":             {[]api.Metric{data}, "", []api.Item{item("a", 1), {Name: "b", Type: 3, V: api.Value{K: api.VData}}, item("a", 3), item("", 4)}, api.ROk},
		"strange alias":       {[]api.Metric{num("b", 5), by(9, 1), num("q", 1)}, "", nil, api.RAlias},
		"alias of others":     {[]api.Metric{by(3, 1)}, "", nil, api.RAlias},
		"alias of no item":    {[]api.Metric{by(2, 1), by(9, 1)}, "", nil, api.RName},
		"strange name":        {[]api.Metric{num("q", 1), by(9, 1)}, "", nil, api.RName},
		"neither":             {[]api.Metric{num("", 1)}, "", nil, api.RName},
	} {
		in := l()
		got, code := Update(in, x.m, table(t), x.owner)
		if code != x.code || !Same(got, x.want) {
			t.Errorf("%s: %v %d, want %v %d", name, got, code, x.want, x.code)
		}
		if !reflect.DeepEqual(in, l()) {
			t.Errorf("%s: what was handed in was changed: %v", name, in)
		}
	}
	in := l()
	got, _ := Update(in, nil, nil, "")
	got[0].Name = "changed"
	if !reflect.DeepEqual(in, l()) {
		t.Error("what was answered shares with what was handed in")
	}
	for _, none := range []*alias.Table{nil, {}} {
		if got, code := Update(l(), []api.Metric{by(1, 1)}, none, ""); got != nil || code != api.RAlias {
			t.Errorf("without a table: %v %d", got, code)
		}
	}
	if got, code := Update(nil, []api.Metric{num("a", 1)}, table(t), ""); got != nil || code != api.RName {
		t.Errorf("of no items: %v %d", got, code)
	}
}

func TestFindSame(t *testing.T) {
	l := []api.Item{item("a", 1), item("b", 2), item("a", 3)}
	if x, ok := Find(l, "a"); x != item("a", 1) || !ok {
		t.Errorf("Find: %v %v", x, ok)
	}
	if x, ok := Find(l, "c"); x != (api.Item{}) || ok {
		t.Errorf("Find of none: %v %v", x, ok)
	}
	if _, ok := Find(nil, ""); ok {
		t.Error("Find in nothing")
	}
	if !Same(l, append([]api.Item{}, l...)) || !Same(nil, []api.Item{}) || Same(l, l[:2]) || Same(nil, l) {
		t.Error("Same")
	}
	for i, change := range []func(x *api.Item){func(x *api.Item) { x.Name = "z" }, func(x *api.Item) { x.HasAlias = true }, func(x *api.Item) { x.Alias++ }, func(x *api.Item) { x.Type++ }, func(x *api.Item) { x.Null = true }, func(x *api.Item) { x.V.N++ }, func(x *api.Item) { x.V.K++ }, func(x *api.Item) { x.V.S = "z" }} {
		m := append([]api.Item{}, l...)
		change(&m[1])
		if Same(l, m) || Same(m, l) {
			t.Errorf("change %d is not seen", i)
		}
	}
}
