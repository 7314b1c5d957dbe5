package conn

import (
	"reflect"
	"strings"
	"testing"

	"crier/api"
	"crier/packet"
)

func put(t *testing.T, p api.Packet) string {
	t.Helper()
	b, e := packet.Put(p)
	if e != api.OK {
		t.Fatalf("Put(%v): %d", p, e)
	}
	return string(b)
}

func who(client string) api.Packet {
	return api.Packet{Kind: api.PConnect, C: api.Connect{Level: 4, Client: client, Keep: 7}}
}

func willed(topic string) api.Packet {
	p := who("c")
	p.C.HasWill, p.C.Will = true, api.Msg{Topic: topic, Text: "x", Qos: 1, Retain: true}
	return p
}

func pub(topic string) api.Packet {
	return api.Packet{Kind: api.PPublish, M: api.Msg{Topic: topic, Text: "x"}}
}

func next(t *testing.T, c *Conn, want api.Packet, ok bool, e api.Errno) {
	t.Helper()
	if p, there, f := c.Next(); !reflect.DeepEqual(p, want) || there != ok || f != e {
		t.Errorf("Next: %v %v %d, want %v %v %d", p, there, f, want, ok, e)
	}
}

func TestNext(t *testing.T) {
	c := New()
	next(t, c, api.Packet{}, false, api.OK)
	if c.Closed() || c.Out() != "" || c.Waits() != 0 || c.Forget() {
		t.Error("a new one is open, with nothing")
	}
	b := put(t, who("c"))
	if c.Feed(b[:5]) != api.OK || c.Waits() != 5 {
		t.Errorf("Feed: %d wait", c.Waits())
	}
	next(t, c, api.Packet{}, false, api.OK)
	c.Feed(b[5:] + "\xc0\x00" + put(t, pub("a/b")) + "\xe0")
	next(t, c, who("c"), true, api.OK)
	next(t, c, api.Packet{Kind: api.PPingreq}, true, api.OK)
	next(t, c, pub("a/b"), true, api.OK)
	next(t, c, api.Packet{}, false, api.OK)
	if c.Waits() != 1 {
		t.Errorf("Waits: %d", c.Waits())
	}
	if c.Close() != true || c.Feed("\x00\x00") != api.OK || c.Waits() != 1 {
		t.Errorf("a closed one takes no bytes: %d", c.Waits())
	}
	next(t, c, api.Packet{}, false, api.OK)
}

// TestMayNotCome looks at what may not come: first, and behind who comes.
func TestMayNotCome(t *testing.T) {
	first := put(t, who("c"))
	for name, x := range map[string]struct {
		ahead, b string
		e        api.Errno
	}{
		"ping first": {"", "\xc0\x00", api.ErrProto}, "message first": {"", put(t, pub("a")), api.ErrProto}, "leave first": {"", "\xe0\x00", api.ErrProto}, "strange first": {"", "\x20\x02\x00\x00", api.ErrKind},
		"twice": {first, first, api.ErrProto}, "connack": {first, "\x20\x02\x00\x00", api.ErrKind}, "suback": {first, "\x90\x03\x00\x01\x00", api.ErrKind}, "unsuback": {first, "\xb0\x02\x00\x01", api.ErrKind}, "pong": {first, "\xd0\x00", api.ErrKind},
		"long topic": {first, put(t, pub(strings.Repeat("x", 97))), api.ErrTopic}, "deep topic": {first, put(t, pub(strings.Repeat("/", 12))), api.ErrTopic}, "wide topic": {first, "\x30\x03\x00\x01#", api.ErrTopic},
		"wide will": {"", put(t, willed("a/+")), api.ErrTopic}, "empty will": {"", put(t, willed("")), api.ErrTopic}, "twice ahead of the will": {first, put(t, willed("+")), api.ErrProto},
		"head": {first, "\x00", api.ErrKind}, "flags": {first, "\xc1\x00", api.ErrFlags}, "long": {first, "\xc0\xff\xff\xff\xff", api.ErrLong}, "form": {first, "\xc0\x01x", api.ErrForm}, "short": {"", "\x10\x00", api.ErrShort}, "arg": {first, "\x40\x02\x00\x00", api.ErrArg},
		"strange that can't be": {first, "\x20\x02\x02\x00", api.ErrForm},
	} {
		c := New()
		c.Feed(x.ahead + x.b + "\xc0\x00")
		if x.ahead != "" {
			next(t, c, who("c"), true, api.OK)
		}
		for range 3 {
			if p, ok, e := c.Next(); !reflect.DeepEqual(p, api.Packet{}) || ok || e != x.e {
				t.Errorf("%s: %v %v %d, want %d", name, p, ok, e, x.e)
			}
			c.Feed("\xc0\x00")
		}
		if c.Closed() {
			t.Errorf("%s: it is not closed by itself", name)
		}
		c.Close()
		next(t, c, api.Packet{}, false, api.OK)
	}
	for _, p := range []api.Packet{
		who("c"), {Kind: api.PPuback, Id: 1}, {Kind: api.PPubrec, Id: 1}, {Kind: api.PPubrel, Id: 1}, {Kind: api.PPubcomp, Id: 1}, {Kind: api.PSubscribe, Id: 1, Filters: []api.Filter{{Text: "no+filter"}}},
		{Kind: api.PUnsubscribe, Id: 1, Filters: []api.Filter{{Text: ""}}}, {Kind: api.PPingreq}, {Kind: api.PDisconnect}, willed("a"),
	} {
		c := New()
		comes := p.Kind == api.PConnect
		if !comes {
			c.Feed(first)
			c.Next()
		}
		c.Feed(put(t, p))
		next(t, c, p, true, api.OK)
	}
	c := New()
	c.Feed("\x10\x07\x00\x04MQTT\x05")
	next(t, c, api.Packet{Kind: api.PConnect, C: api.Connect{Level: 5}}, true, api.OK)
}

func TestEmit(t *testing.T) {
	c := New()
	want := ""
	for _, p := range []api.Packet{{Kind: api.PConnack}, pub("a"), {Kind: api.PPingresp}, {Kind: api.PPubrel, Id: 300}} {
		if e := c.Emit(p); e != api.OK {
			t.Errorf("Emit: %d", e)
		}
		want += put(t, p)
	}
	for _, p := range []api.Packet{{}, {Kind: 15}, pub("#"), {Kind: api.PPuback}} {
		_, e := packet.Put(p)
		if got := c.Emit(p); got != e || e == api.OK {
			t.Errorf("Emit(%v): %d, want %d", p, got, e)
		}
	}
	if c.Out() != want {
		t.Errorf("Out: %x, want %x", c.Out(), want)
	}
	if !c.Close() || c.Close() || !c.Closed() || c.Emit(pub("a")) != api.OK || c.Out() != want {
		t.Errorf("of a closed one nothing goes out: %x", c.Out())
	}
	if e := c.Emit(api.Packet{}); e != api.ErrKind {
		t.Errorf("Emit of none on a closed one: %d", e)
	}
}

func TestAccept(t *testing.T) {
	c := New()
	if x, ok := c.Who(); x != (api.Connect{}) || ok {
		t.Errorf("Who: %v %v", x, ok)
	}
	if m, ok := c.Will(); m != (api.Msg{}) || ok || c.Forget() {
		t.Errorf("Will: %v %v", m, ok)
	}
	x := willed("w").C
	if e := c.Accept(x); e != api.OK {
		t.Errorf("Accept: %d", e)
	}
	if got, ok := c.Who(); got != x || !ok {
		t.Errorf("Who: %v %v", got, ok)
	}
	if m, ok := c.Will(); m != x.Will || !ok {
		t.Errorf("Will: %v %v", m, ok)
	}
	c.Close()
	if m, ok := c.Will(); m != x.Will || !ok {
		t.Errorf("Will of a closed one: %v %v", m, ok)
	}
	if !c.Forget() || c.Forget() {
		t.Error("Forget")
	}
	if m, ok := c.Will(); m != (api.Msg{}) || ok {
		t.Errorf("Will that is forgotten: %v %v", m, ok)
	}
	if got, ok := c.Who(); got != x || !ok {
		t.Errorf("Who stays: %v %v", got, ok)
	}
	c.Accept(who("d").C)
	if got, ok := c.Who(); got.Client != "d" || !ok || c.Forget() {
		t.Errorf("who came last: %v %v", got, ok)
	}
}

func TestNone(t *testing.T) {
	for _, c := range []*Conn{nil, {}, new(Conn)} {
		if c.Feed("x") != api.ErrZero || c.Emit(api.Packet{}) != api.ErrZero || c.Accept(api.Connect{HasWill: true}) != api.ErrZero {
			t.Error("ErrZero")
		}
		next(t, c, api.Packet{}, false, api.ErrZero)
		x, came := c.Who()
		m, left := c.Will()
		if x != (api.Connect{}) || came || m != (api.Msg{}) || left || c.Forget() || c.Close() || !c.Closed() || c.Out() != "" || c.Waits() != 0 {
			t.Error("of none: the zero values; Closed: true")
		}
	}
}

func TestChunks(t *testing.T) {
	all := put(t, willed("w")) + "\xc0\x00" + put(t, pub("a/b")) + put(t, api.Packet{Kind: api.PSubscribe, Id: 5, Filters: []api.Filter{{Text: "#", Qos: 2}}}) + "\xd0\x00\xc0\x00"
	drain := func(c *Conn) ([]api.Packet, api.Errno) {
		var l []api.Packet
		for {
			p, ok, e := c.Next()
			if !ok {
				return l, e
			}
			l = append(l, p)
		}
	}
	whole := New()
	whole.Feed(all)
	want, wantE := drain(whole)
	if len(want) != 4 || wantE != api.ErrKind {
		t.Fatalf("%v %d", want, wantE)
	}
	for size := 1; size < len(all); size++ {
		c := New()
		var got []api.Packet
		for at := 0; at < len(all); at += size {
			c.Feed(all[at:min(at+size, len(all))])
			l, _ := drain(c)
			got = append(got, l...)
		}
		if _, e := drain(c); e != wantE || !reflect.DeepEqual(got, want) {
			t.Errorf("in chunks of %d: %v %d", size, got, e)
		}
	}
}
