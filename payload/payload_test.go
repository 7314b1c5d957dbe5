package payload

import (
	"math"
	"reflect"
	"strings"
	"testing"

	"crier/api"
	"crier/metric"
)

func plain(name string, k int, n uint64) api.Metric {
	return api.Metric{Name: name, V: api.Value{K: k, N: n}}
}

func example() api.Payload {
	return api.Payload{
		Time: 300, HasSeq: true, Seq: math.MaxUint64, Uuid: "u", Body: "\x00b",
		Metrics: []api.Metric{plain("a", api.VInt, 1), {
			Name: "t", Meta: []api.Meta{{Seq: 1}}, Props: []api.Prop{{Key: "p", V: api.Value{K: api.VSet}, Sub: []api.Prop{{Key: "q"}}}}, V: api.Value{K: api.VTempl},
			Templ: []api.Template{{Params: []api.Param{{Name: "x"}}, Metrics: []api.Metric{{
				V: api.Value{K: api.VData}, Set: []api.DataSet{{Cols: []string{"c"}, Types: []uint32{1}, Rows: [][]api.Value{{{K: api.VInt, N: 9}}}}},
			}}}},
		}, plain("a", api.VInt, 2)},
	}
}

func TestPut(t *testing.T) {
	for _, x := range []struct {
		p api.Payload
		b string
	}{
		{api.Payload{}, ""}, {api.Payload{HasSeq: true, Seq: 3}, "\x18\x03"}, {api.Payload{HasSeq: true}, "\x18\x00"}, {api.Payload{Seq: 3}, ""},
		{api.Payload{Time: 300, HasSeq: true, Seq: 1, Uuid: "u", Body: "b", Metrics: []api.Metric{{Name: "m"}, {}}}, "\x08\xac\x02\x12\x03\x0a\x01m\x12\x00\x18\x01\x22\x01u\x2a\x01b"},
	} {
		if b, e := Put(x.p); string(b) != x.b || e != api.OK {
			t.Errorf("Put(%v): %x %d", x.p, b, e)
		}
	}
	wrong := plain("", 99, 0)
	long := strings.Repeat("x", api.MaxMessage)
	for name, x := range map[string]struct {
		p api.Payload
		e api.Errno
	}{
		"metrics":      {api.Payload{Metrics: append(make([]api.Metric, 64), wrong)}, api.ErrFull},
		"metric":       {api.Payload{Body: long, Metrics: []api.Metric{plain("", api.VBool, 2), wrong}}, api.ErrRange},
		"metric, last": {api.Payload{Metrics: append(make([]api.Metric, 63), wrong)}, api.ErrKind},
		"long":         {api.Payload{Body: long}, api.ErrLong},
	} {
		if b, e := Put(x.p); b != nil || e != x.e {
			t.Errorf("%s: %d bytes, %d, want %d", name, len(b), e, x.e)
		}
	}
	if b, e := Put(api.Payload{Metrics: make([]api.Metric, 64)}); len(b) != 128 || e != api.OK {
		t.Errorf("as many as there may be: %d %d", len(b), e)
	}
}

func TestOf(t *testing.T) {
	for _, x := range []struct {
		b string
		p api.Payload
	}{
		{"", api.Payload{}}, {"\x18\x05\x18\x03", api.Payload{HasSeq: true, Seq: 3}}, {"\x38\x05\x08\x05\x08\x00\x22\x01u\x22\x01v\x2a\x01b\x2a\x00", api.Payload{Uuid: "v"}},
		{"\x2a\x01b\x12\x03\x0a\x01m\x08\x01\x12\x00", api.Payload{Time: 1, Body: "b", Metrics: []api.Metric{{Name: "m"}, {}}}},
		{strings.Repeat("\x12\x00", 64), api.Payload{Metrics: make([]api.Metric, 64)}},
	} {
		if p, e := Of([]byte(x.b)); !Same(p, x.p) || e != api.OK {
			t.Errorf("Of(%x): %v %d", x.b, p, e)
		}
	}
	for b, want := range map[string]api.Errno{
		"\x08": api.ErrShort, "\x0f": api.ErrKind, "\x00": api.ErrRange, strings.Repeat("x", api.MaxMessage+1): api.ErrLong,
		"\x0a\x00": api.ErrForm, "\x10\x00": api.ErrForm, "\x1a\x00": api.ErrForm, "\x20\x00": api.ErrForm, "\x28\x00": api.ErrForm,
		strings.Repeat("\x12\x00", 65): api.ErrFull, strings.Repeat("\x12\x00", 65) + "\x10\x00": api.ErrForm, "\x12\x01\x0f" + strings.Repeat("\x12\x00", 64): api.ErrFull,
		"\x12\x02\x38\x02\x12\x01\x0f": api.ErrRange, "\x12\x01\x0f\x0a\x00": api.ErrForm, "\x12\x00\x12\x01\x0f": api.ErrKind,
	} {
		if p, e := Of([]byte(b)); !reflect.DeepEqual(p, api.Payload{}) || e != want {
			t.Errorf("Of(%.40x): %v %d, want %d", b, p, e, want)
		}
	}
}

func TestFind(t *testing.T) {
	p := example()
	if m, ok := Find(p, "a"); !metric.Same(m, p.Metrics[0]) || !ok {
		t.Errorf("Find: %v %v", m, ok)
	}
	if m, ok := Find(p, "b"); !reflect.DeepEqual(m, api.Metric{}) || ok {
		t.Errorf("Find of none: %v %v", m, ok)
	}
	if _, ok := Find(api.Payload{}, ""); ok {
		t.Error("Find in nothing")
	}
	m, _ := Find(p, "t")
	if !metric.Same(m, p.Metrics[1]) {
		t.Errorf("Find of a whole one: %v", m)
	}
	m.Meta[0].Seq, m.Props[0].Key, m.Props[0].Sub[0].Key, m.Templ[0].Ref, m.Templ[0].Params[0].Name = 5, "z", "z", "z", "z"
	set := m.Templ[0].Metrics[0].Set
	set[0].Cols[0], set[0].Types[0], set[0].Rows[0][0].N = "z", 5, 5
	set[0].Rows[0], m.Templ[0].Metrics[0].Name = nil, "z"
	if !reflect.DeepEqual(p, example()) {
		t.Error("what was found shares with what was handed in")
	}
}

func TestSeqBd(t *testing.T) {
	for _, x := range []struct {
		p   api.Payload
		seq int
		ok  bool
	}{{api.Payload{}, 0, false}, {api.Payload{Seq: 5}, 0, false}, {api.Payload{HasSeq: true}, 0, true}, {api.Payload{HasSeq: true, Seq: 255}, 255, true}, {api.Payload{HasSeq: true, Seq: 256}, 0, false}, {api.Payload{HasSeq: true, Seq: math.MaxUint64}, 0, false}} {
		if n, ok := Seq(x.p); n != x.seq || ok != x.ok {
			t.Errorf("Seq(%v): %d %v", x.p, n, ok)
		}
	}
	null := plain("bdSeq", api.VInt, 3)
	null.Null = true
	for _, x := range []struct {
		l  []api.Metric
		bd int
		ok bool
	}{
		{nil, 0, false}, {[]api.Metric{plain("bd", api.VInt, 3)}, 0, false}, {[]api.Metric{plain("", 0, 0), plain("bdSeq", api.VInt, 3)}, 3, true}, {[]api.Metric{plain("bdSeq", api.VLong, 255)}, 255, true},
		{[]api.Metric{plain("bdSeq", api.VLong, 256)}, 0, false}, {[]api.Metric{plain("bdSeq", api.VFloat, 3)}, 0, false}, {[]api.Metric{plain("bdSeq", api.VBool, 1)}, 0, false}, {[]api.Metric{plain("bdSeq", api.VDouble, 1)}, 0, false}, {[]api.Metric{plain("bdSeq", 0, 0)}, 0, false},
		{[]api.Metric{null}, 0, false}, {[]api.Metric{null, plain("bdSeq", api.VInt, 3)}, 0, false}, {[]api.Metric{plain("bdSeq", api.VInt, 4), null}, 4, true},
	} {
		if n, ok := Bd(api.Payload{Metrics: x.l}); n != x.bd || ok != x.ok {
			t.Errorf("Bd(%v): %d %v", x.l, n, ok)
		}
	}
}

func TestRebirth(t *testing.T) {
	if b := Rebirth(); string(b) != "\x12\x1a\x0a\x14Node Control/Rebirth\x20\x0b\x70\x01" {
		t.Errorf("Rebirth: %x", b)
	}
	Rebirth()[0] = 0
	p, e := Of(Rebirth())
	if m, ok := Find(p, "Node Control/Rebirth"); e != api.OK || !ok || len(p.Metrics) != 1 || m.Type != 11 || m.V != (api.Value{K: api.VBool, N: 1}) {
		t.Errorf("Rebirth told: %v %d", p, e)
	}
}

func TestSame(t *testing.T) {
	if !Same(example(), example()) || !Same(api.Payload{}, api.Payload{Metrics: []api.Metric{}}) {
		t.Error("Same of the same")
	}
	for i, change := range []func(p *api.Payload){
		func(p *api.Payload) { p.Time++ }, func(p *api.Payload) { p.HasSeq = false }, func(p *api.Payload) { p.Seq = 0 }, func(p *api.Payload) { p.Uuid = "" }, func(p *api.Payload) { p.Body = "" },
		func(p *api.Payload) { p.Metrics[1].Templ[0].Metrics[0].Set[0].Cols[0] = "" }, func(p *api.Payload) { p.Metrics = p.Metrics[:2] }, func(p *api.Payload) { p.Metrics[0].V.N = 9 },
	} {
		p := example()
		change(&p)
		if Same(p, example()) || Same(example(), p) {
			t.Errorf("change %d is not seen", i)
		}
	}
}

func TestWhatWasPutIsTold(t *testing.T) {
	for _, p := range []api.Payload{{}, example(), {HasSeq: true}, {Metrics: make([]api.Metric, 64)}} {
		b, e := Put(p)
		if e != api.OK {
			t.Fatalf("Put: %d", e)
		}
		if got, e := Of(b); !Same(got, p) || e != api.OK {
			t.Errorf("%v: %v %d", p, got, e)
		}
	}
}
