package packet

import (
	"math"
	"reflect"
	"strings"
	"testing"

	"crier/api"
)

// stuffed is a packet of a kind that has all that any kind has.
func stuffed(kind int) api.Packet {
	return api.Packet{
		Kind: kind, Id: 5, Dup: true, M: api.Msg{Topic: "a", Text: "x", Qos: 1, Retain: true}, C: api.Connect{Level: 4, Client: "c", Keep: 1},
		Present: true, Filters: []api.Filter{{Text: "f/#", Qos: 2}}, Codes: []int{1, 128},
	}
}

// laid has, for each kind, what is laid of the stuffed packet.
func laid() map[int]string {
	return map[int]string{
		api.PConnect: "\x10\x0d\x00\x04MQTT\x04\x00\x00\x01\x00\x01c", api.PConnack: "\x20\x02\x01\x00", api.PPublish: "\x3b\x06\x00\x01a\x00\x05x",
		api.PPuback: "\x40\x02\x00\x05", api.PPubrec: "\x50\x02\x00\x05", api.PPubrel: "\x62\x02\x00\x05", api.PPubcomp: "\x70\x02\x00\x05",
		api.PSubscribe: "\x82\x08\x00\x05\x00\x03f/#\x02", api.PSuback: "\x90\x04\x00\x05\x01\x80", api.PUnsubscribe: "\xa2\x07\x00\x05\x00\x03f/#", api.PUnsuback: "\xb0\x02\x00\x05",
		api.PPingreq: "\xc0\x00", api.PPingresp: "\xd0\x00", api.PDisconnect: "\xe0\x00",
	}
}

// has says what each kind has.
func has(kind int) api.Packet {
	s := stuffed(kind)
	p := api.Packet{Kind: kind}
	switch kind {
	case api.PConnect:
		p.C = s.C
	case api.PConnack:
		p.Present = true
	case api.PPublish:
		p.M, p.Dup, p.Id = s.M, true, 5
	case api.PPuback, api.PPubrec, api.PPubrel, api.PPubcomp, api.PUnsuback:
		p.Id = 5
	case api.PSubscribe:
		p.Id, p.Filters = 5, s.Filters
	case api.PUnsubscribe:
		p.Id, p.Filters = 5, []api.Filter{{Text: "f/#"}}
	case api.PSuback:
		p.Id, p.Codes = 5, s.Codes
	}
	return p
}

func TestCleanPutOf(t *testing.T) {
	for kind := 1; kind <= 14; kind++ {
		p := stuffed(kind)
		if x := Clean(p); !Same(x, has(kind)) {
			t.Errorf("Clean of kind %d: %v", kind, x)
		}
		b, e := Put(p)
		if string(b) != laid()[kind] || e != api.OK {
			t.Errorf("Put of kind %d: %x %d", kind, b, e)
		}
		if l, n, e := All(string(b)); len(l) != 1 || !Same(l[0], has(kind)) || n != len(b) || e != api.OK {
			t.Errorf("All of kind %d: %v %d %d", kind, l, n, e)
		}
		if !reflect.DeepEqual(p, stuffed(kind)) {
			t.Errorf("kind %d: what was handed in was changed", kind)
		}
	}
	for _, kind := range []int{math.MinInt, -1, 0, 15, math.MaxInt} {
		if x := Clean(stuffed(kind)); !Same(x, api.Packet{Kind: kind}) {
			t.Errorf("Clean of kind %d: %v", kind, x)
		}
		if b, e := Put(stuffed(kind)); b != nil || e != api.ErrKind {
			t.Errorf("Put of kind %d: %x %d", kind, b, e)
		}
	}
	for _, kind := range []int{api.PSubscribe, api.PSuback} {
		p := stuffed(kind)
		x := Clean(p)
		if len(x.Filters) > 0 {
			x.Filters[0].Text = "z"
		}
		if len(x.Codes) > 0 {
			x.Codes[0] = 9
		}
		if !reflect.DeepEqual(p, stuffed(kind)) {
			t.Errorf("kind %d: Clean shares with what was handed in", kind)
		}
	}
}

func TestQosNone(t *testing.T) {
	p := stuffed(api.PPublish)
	p.M.Qos, p.Dup = 0, false
	if b, e := Put(p); string(b) != "\x31\x04\x00\x01ax" || e != api.OK || Clean(p).Id != 0 {
		t.Errorf("an Id that its Qos has not: %x %d", b, e)
	}
	p.M.Qos, p.M.Retain = 2, false
	if b, e := Put(p); string(b) != "\x34\x06\x00\x01a\x00\x05x" || e != api.OK {
		t.Errorf("of Qos 2: %x %d", b, e)
	}
}

func TestPutWrong(t *testing.T) {
	for name, x := range map[string]struct {
		kind   int
		change func(p *api.Packet)
		e      api.Errno
	}{
		"dup of Qos 0": {api.PPublish, func(p *api.Packet) { p.M.Qos, p.M.Topic = 0, "#" }, api.ErrFlags},
		"Qos":          {api.PPublish, func(p *api.Packet) { p.M.Qos = 3 }, api.ErrFlags},
		"low Qos":      {api.PPublish, func(p *api.Packet) { p.M.Qos = -1 }, api.ErrFlags},
		"topic":        {api.PPublish, func(p *api.Packet) { p.M.Topic = "#" }, api.ErrTopic},
		"message's id": {api.PPublish, func(p *api.Packet) { p.Id = 0 }, api.ErrArg},
		"long":         {api.PPublish, func(p *api.Packet) { p.M.Text = strings.Repeat("x", 4092) }, api.ErrLong},
		"level":        {api.PConnect, func(p *api.Packet) { p.C.Level = 3 }, api.ErrProto},
		"code":         {api.PConnack, func(p *api.Packet) { p.Code = 6 }, api.ErrArg},
		"present":      {api.PConnack, func(p *api.Packet) { p.Code = 1 }, api.ErrForm},
		"id":           {api.PPubrel, func(p *api.Packet) { p.Id = 65536 }, api.ErrArg},
		"no filter":    {api.PSubscribe, func(p *api.Packet) { p.Filters = nil }, api.ErrForm},
		"filter's Qos": {api.PSubscribe, func(p *api.Packet) { p.Filters[0].Qos = 3 }, api.ErrRange},
		"filters":      {api.PUnsubscribe, func(p *api.Packet) { p.Filters = make([]api.Filter, 9) }, api.ErrFull},
		"codes":        {api.PSuback, func(p *api.Packet) { p.Codes[0] = 3 }, api.ErrRange},
	} {
		p := stuffed(x.kind)
		x.change(&p)
		if b, e := Put(p); b != nil || e != x.e {
			t.Errorf("%s: %x %d, want %d", name, b, e, x.e)
		}
	}
}

func TestOfWrong(t *testing.T) {
	raw := func(kind, flags, n int, body string) api.Raw {
		return api.Raw{H: api.Head{Kind: kind, Flags: flags, Len: n}, Body: body}
	}
	for _, x := range []struct {
		r api.Raw
		e api.Errno
	}{
		{raw(0, 9, 9, ""), api.ErrKind}, {raw(15, 0, 0, ""), api.ErrKind}, {raw(api.PPingreq, 1, 9, ""), api.ErrFlags}, {raw(api.PSubscribe, 0, 0, ""), api.ErrFlags}, {raw(api.PPublish, 6, 0, ""), api.ErrFlags},
		{raw(api.PPingreq, 0, 1, ""), api.ErrForm}, {raw(api.PPuback, 0, 1, "\x00\x05"), api.ErrForm}, {raw(api.PPuback, 0, -1, "\x00\x05"), api.ErrForm}, {raw(api.PConnect, 0, 5, ""), api.ErrForm},
		{raw(api.PPingreq, 0, 1, "x"), api.ErrForm}, {raw(api.PPingresp, 0, 1, "x"), api.ErrForm}, {raw(api.PDisconnect, 0, 1, "x"), api.ErrForm},
		{raw(api.PConnect, 0, 0, ""), api.ErrShort}, {raw(api.PConnack, 0, 2, "\x00\x06"), api.ErrArg}, {raw(api.PPublish, 2, 3, "\x00\x01a"), api.ErrShort}, {raw(api.PPublish, 3, 3, "\x00\x01#"), api.ErrTopic},
		{raw(api.PPuback, 0, 1, "x"), api.ErrForm}, {raw(api.PPubrec, 0, 2, "\x00\x00"), api.ErrArg}, {raw(api.PPubrel, 2, 3, "\x00\x01\x00"), api.ErrForm}, {raw(api.PPubcomp, 0, 0, ""), api.ErrForm}, {raw(api.PUnsuback, 0, 0, ""), api.ErrForm},
		{raw(api.PSubscribe, 2, 2, "\x00\x01"), api.ErrForm}, {raw(api.PSubscribe, 2, 5, "\x00\x01\x00\x01a"), api.ErrShort}, {raw(api.PUnsubscribe, 2, 2, "\x00\x00"), api.ErrArg}, {raw(api.PSuback, 0, 3, "\x00\x01\x03"), api.ErrRange},
	} {
		if p, e := Of(x.r); !reflect.DeepEqual(p, api.Packet{}) || e != x.e {
			t.Errorf("Of(%v): %v %d, want %d", x.r, p, e, x.e)
		}
	}
	if p, e := Of(raw(api.PConnect, 0, 7, "\x00\x04MQTT\x03")); e != api.OK || p.C != (api.Connect{Level: 3}) {
		t.Errorf("of another level: %v %d", p, e)
	}
}

func TestAll(t *testing.T) {
	two := "\xc0\x00\x40\x02\x00\x05"
	for _, x := range []struct {
		s    string
		n    int
		size int
		e    api.Errno
	}{
		{"", 0, 0, 0}, {two, 2, 6, 0}, {two + "\x40", 2, 6, 0}, {two + "\x40\x02\x00", 2, 6, 0}, {two + "\xc0\xff\xff", 2, 6, 0}, {two + "\xc0\x80\x00", 3, 9, 0},
		{two + "\x00", 2, 6, api.ErrKind}, {two + "\xc1\x00", 2, 6, api.ErrFlags}, {two + "\xc0\xff\xff\xff\xff", 2, 6, api.ErrLong}, {two + "\xc0\x01", 2, 6, 0}, {two + "\xc0\x01x" + two, 2, 6, api.ErrForm}, {two + "\x40\x02\x00\x00" + two, 2, 6, api.ErrArg},
		{"\x40\x02\x00\x00", 0, 0, api.ErrArg},
	} {
		l, n, e := All(x.s)
		if len(l) != x.n || n != x.size || e != x.e {
			t.Errorf("All(%x): %v %d %d, want %d %d %d", x.s, l, n, e, x.n, x.size, x.e)
		}
		for i, p := range l[:min(len(l), 2)] {
			if want := []api.Packet{{Kind: api.PPingreq}, {Kind: api.PPuback, Id: 5}}[i]; !Same(p, want) {
				t.Errorf("All(%x): %v", x.s, l)
			}
		}
	}
	var s string
	for kind := 1; kind <= 14; kind++ {
		s += laid()[kind]
	}
	if l, n, e := All(s); len(l) != 14 || n != len(s) || e != api.OK {
		t.Errorf("All of all kinds: %v %d %d", l, n, e)
	}
}

func TestSame(t *testing.T) {
	if !Same(stuffed(3), stuffed(3)) || !Same(api.Packet{}, api.Packet{Filters: []api.Filter{}, Codes: []int{}}) {
		t.Error("Same of the same")
	}
	for i, change := range []func(p *api.Packet){
		func(p *api.Packet) { p.Kind = 4 }, func(p *api.Packet) { p.Id = 0 }, func(p *api.Packet) { p.Dup = false }, func(p *api.Packet) { p.M.Text = "" }, func(p *api.Packet) { p.M.Retain = false }, func(p *api.Packet) { p.C.Keep = 0 }, func(p *api.Packet) { p.C.Will.Topic = "z" },
		func(p *api.Packet) { p.Present = false }, func(p *api.Packet) { p.Code = 1 }, func(p *api.Packet) { p.Filters[0].Qos = 0 }, func(p *api.Packet) { p.Filters = nil }, func(p *api.Packet) { p.Codes[1] = 0 }, func(p *api.Packet) { p.Codes = p.Codes[:1] },
	} {
		p := stuffed(3)
		change(&p)
		if Same(p, stuffed(3)) || Same(stuffed(3), p) {
			t.Errorf("change %d is not seen", i)
		}
	}
}
