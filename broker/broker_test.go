package broker

import (
	"math"
	"strconv"
	"strings"
	"testing"

	"crier/api"
	"crier/payload"
)

func TestDo(t *testing.T) {
	r := newRig(t)
	for _, k := range []int{math.MinInt, -1, 5, math.MaxInt} {
		r.do(api.Event{K: k, Conn: -1, N: -1}, api.ErrKind)
	}
	for _, k := range []int{api.EvOpen, api.EvBytes, api.EvClose, api.EvServe} {
		for _, place := range []int{math.MinInt, -1, 8, math.MaxInt} {
			r.do(api.Event{K: k, Conn: place}, api.ErrArg)
		}
	}
	for _, k := range []int{api.EvBytes, api.EvClose, api.EvServe} {
		r.do(api.Event{K: k, Conn: 3, Data: "x"}, api.ErrNone)
	}
	r.open(3)
	r.do(api.Event{K: api.EvOpen, Conn: 3}, api.ErrUsed)
	r.do(api.Event{K: api.EvServe, Conn: 3}, api.OK)
	r.close(3)
	for _, k := range []int{api.EvBytes, api.EvClose, api.EvServe} {
		r.do(api.Event{K: k, Conn: 3}, api.ErrNone)
	}
	r.open(3)
	r.open(0)
	same(t, "Links", r.b.Links(), []api.Link{{Conn: 3, Closed: true}, {Conn: 3}, {}})
	if r.b.Sessions() != 0 || len(r.b.Log()) != 0 || r.b.Clock() != 0 {
		t.Error("nobody came yet")
	}
}

func TestTick(t *testing.T) {
	r := newRig(t)
	for _, n := range []int{math.MinInt, -1, 1001, math.MaxInt} {
		r.do(api.Event{K: api.EvTick, N: n, Conn: 99}, api.ErrRange)
	}
	r.do(api.Event{K: api.EvTick, N: 0, Conn: 99}, api.OK)
	r.tick(1000)
	if r.b.Clock() != 1000 {
		t.Errorf("Clock: %d", r.b.Clock())
	}
	for r.b.Clock() < api.MaxClock-1000 {
		r.b.Do(api.Event{K: api.EvTick, N: 1000})
	}
	left := api.MaxClock - r.b.Clock()
	r.do(api.Event{K: api.EvTick, N: left + 1}, api.ErrRange)
	r.tick(left)
	r.tick(0)
	r.do(api.Event{K: api.EvTick, N: 1}, api.ErrRange)
	if r.b.Clock() != api.MaxClock {
		t.Errorf("Clock: %d", r.b.Clock())
	}
}

func TestConnect(t *testing.T) {
	r := newRig(t)
	r.open(0)
	r.bytes(0, "\x10\x0d\x00\x04MQTT\x04\x02\x00\x00\x00\x01a", api.OK)
	if _, l := r.last(0); l.Out != "\x20\x02\x00\x00" {
		t.Errorf("a PConnack went out: %x", l.Out)
	}
	for _, x := range []struct {
		b    string
		code int
	}{
		{"\x10\x07\x00\x04MQTT\x03", api.CLevel}, {"\x10\x08\x00\x04MQTT\x05x", api.CLevel},
		{"\x10\x0c\x00\x04MQTT\x04\x00\x00\x00\x00\x00", api.CId}, {"\x10\x2d\x00\x04MQTT\x04\x02\x00\x00\x00\x21" + strings.Repeat("x", 33), api.CId},
	} {
		r.open(1)
		r.bytes(1, x.b, api.OK)
		r.want(1, api.Packet{Kind: api.PConnack, Code: x.code})
		r.closed(1, true)
	}
	r.come(1, named(strings.Repeat("x", 32), false), false)
	if r.b.Sessions() != 2 || r.b.Session("a") == nil || !r.b.Session("a").Online() || r.b.Session("b") != nil || r.b.Session("") != nil {
		t.Errorf("Sessions: %d", r.b.Sessions())
	}
}

func TestNameless(t *testing.T) {
	r := newRig(t)
	r.come(0, named("", true), false)
	r.come(1, named("", true), false)
	if r.b.Session("~0") == nil || r.b.Session("~1") == nil || r.b.Sessions() != 2 {
		t.Error("the nameless are called ~0 and ~1")
	}
	r.send(0, pub(0, msg("a", "x", 0)))
	same(t, "Log", r.b.Log(), []api.Entry{{From: "~0", M: msg("a", "x", 0)}})
	r.close(0)
	if r.b.Session("~0") != nil {
		t.Error("a clean one is gone")
	}
	r.come(0, named("", true), false)
	if r.b.Session("~2") == nil {
		t.Error("the third one is called ~2")
	}
	r.come(2, named("~3", false), false)
	r.come(3, named("", true), false) // is called ~3 too: whose connection is open elsewhere is dropped
	r.closed(2, true)
	if s := r.b.Session("~3"); s == nil || !s.Clean() {
		t.Error("a clean one takes the slot")
	}
}

func TestBusy(t *testing.T) {
	r := newRig(t)
	for i := range api.MaxSessions {
		r.come(0, named("c"+strconv.Itoa(i), false), false)
		r.close(0)
	}
	for i := range 2 {
		r.open(0)
		r.send(0, comes(willed("more", true, msg("w", "x", 0))))
		r.want(0, api.Packet{Kind: api.PConnack, Code: api.CBusy})
		r.closed(0, true)
		same(t, "Counts", r.b.Counts(), api.Counts{Refused: i + 1})
	}
	if len(r.b.Log()) != 0 || r.b.Sessions() != api.MaxSessions {
		t.Error("one that was refused has no will")
	}
	r.come(0, named("c3", true), false)
	r.close(0)
	r.come(0, named("more", false), false)
	same(t, "Counts", r.b.Counts(), api.Counts{Refused: 2})
}

func TestGoesOn(t *testing.T) {
	r := newRig(t)
	r.come(0, named("a", false), false)
	r.wish(0, filter("t/#", 2))
	r.close(0)
	same(t, "Filters", r.b.Filters("a"), []api.Filter{filter("t/#", 2)})
	r.come(1, named("b", true), false)
	r.send(1, pub(5, msg("t/1", "x", 1)), pub(6, msg("t/2", "y", 2)), pub(0, msg("t/3", "z", 0)))
	r.want(1, id(api.PPuback, 5), id(api.PPubrec, 6))
	r.come(0, named("a", false), true, pub(1, msg("t/1", "x", 1)), pub(2, msg("t/2", "y", 2)))
	r.send(0, id(api.PPubrec, 2))
	r.want(0, id(api.PPubrel, 2))
	r.close(0)
	again := pub(1, msg("t/1", "x", 1))
	again.Dup = true
	r.come(2, named("a", false), true, again, id(api.PPubrel, 2))
	r.send(2, id(api.PPuback, 1), id(api.PPubcomp, 2))
	r.close(2)
	r.come(2, named("a", false), true)
	r.close(2)
	r.come(2, named("a", true), false)
	if len(r.b.Filters("a")) != 0 {
		t.Error("a session that does not go on has no filters")
	}
	r.close(2)
	if r.b.Session("a") != nil || r.b.Sessions() != 1 {
		t.Error("a clean one is gone")
	}
	if len(r.b.Filters("nobody")) != 0 {
		t.Error("Filters of nobody")
	}
}

func TestCleanIsGone(t *testing.T) {
	r := newRig(t)
	r.come(0, named("a", true), false)
	r.wish(0, filter("t", 1))
	r.come(1, named("b", true), false)
	r.close(0)
	r.send(1, pub(1, msg("t", "x", 1)))
	r.come(0, named("c", false), false)
	r.send(1, pub(2, msg("t", "x", 1)))
	r.want(0)
	if len(r.b.Filters("c")) != 0 || r.b.Counts() != (api.Counts{}) {
		t.Errorf("its filters are gone: %v", r.b.Filters("c"))
	}
}

func TestElsewhere(t *testing.T) {
	r := newRig(t)
	r.come(0, willed("a", false, msg("t", "will", 1)), false)
	r.wish(0, filter("t", 1))
	r.come(1, named("a", false), true, pub(1, msg("t", "will", 1)))
	r.closed(0, true)
	r.want(0)
	same(t, "Log", r.b.Log(), []api.Entry{{From: "a", Will: true, M: msg("t", "will", 1)}})
	r.open(2)
	r.send(2, comes(named("a", true)))
	r.want(2, api.Packet{Kind: api.PConnack})
	r.closed(1, true)
	if r.b.Sessions() != 1 || len(r.b.Log()) != 1 {
		t.Errorf("Sessions: %d", r.b.Sessions())
	}
}

func TestPublish(t *testing.T) {
	r := newRig(t)
	for i, name := range []string{"a", "b", "c", "d"} {
		r.come(i, named(name, true), false)
	}
	r.wish(1, filter("t", 0))
	r.wish(1, filter("#", 1))
	r.wish(2, filter("+", 2))
	r.wish(0, filter("t", 2))
	kept := msg("t", "x", 2)
	kept.Retain = true
	r.send(0, pub(9, kept))
	r.want(0, id(api.PPubrec, 9), pub(1, msg("t", "x", 2)))
	r.want(1, pub(1, msg("t", "x", 1)))
	r.want(2, pub(1, msg("t", "x", 2)))
	r.want(3)
	same(t, "Log", r.b.Log(), []api.Entry{{From: "a", M: kept}})
	same(t, "Retained", r.b.Retained(), []api.Msg{kept})
	again := pub(9, kept)
	again.Dup = true
	r.send(0, again)
	r.want(0, id(api.PPubrec, 9))
	r.send(0, id(api.PPubrel, 9), id(api.PPubrel, 9), pub(9, kept))
	r.want(0, id(api.PPubcomp, 9), id(api.PPubcomp, 9), id(api.PPubrec, 9), pub(2, msg("t", "x", 2)))
	r.tick(5)
	r.send(3, pub(9, msg("t", "y", 1)), pub(9, msg("t", "y", 1)))
	r.want(3, id(api.PPuback, 9), id(api.PPuback, 9))
	r.out(0)
	r.send(3, pub(0, msg("t", "z", 0)))
	for i, qos := range []int{0, 0, 0} {
		p := r.out(i)
		if x := p[len(p)-1]; x.M != msg("t", "z", qos) {
			t.Errorf("of Qos 0: %v", p)
		}
	}
	if l := r.b.Log(); len(l) != 5 || l[4] != (api.Entry{At: 5, From: "d", M: msg("t", "z", 0)}) {
		t.Errorf("Log: %v", l)
	}
}

func TestInboxFull(t *testing.T) {
	r := newRig(t)
	r.come(0, willed("a", false, msg("w", "x", 0)), false)
	for i := range api.MaxInbox {
		r.send(0, pub(100+i, msg("t", "x", 2)))
	}
	r.out(0)
	r.send(0, pub(100, msg("t", "x", 2)))
	r.want(0, id(api.PPubrec, 100))
	r.send(0, pub(99, msg("t", "x", 2)))
	r.want(0)
	r.closed(0, true)
	l := r.b.Log()
	if len(l) != api.MaxInbox+1 || !l[api.MaxInbox].Will {
		t.Errorf("dropped with its will: %v", l)
	}
}

func TestWills(t *testing.T) {
	will := msg("w", "bye", 1)
	will.Retain = true
	for name, x := range map[string]struct {
		end  func(r *rig)
		left bool
	}{
		"close":   {func(r *rig) { r.close(0) }, true},
		"leave":   {func(r *rig) { r.send(0, api.Packet{Kind: api.PDisconnect}) }, false},
		"wrong":   {func(r *rig) { r.bytes(0, "\xc1\x00", api.ErrFlags) }, true},
		"twice":   {func(r *rig) { r.bytes(0, "\x10\x07\x00\x04MQTT\x04", api.ErrShort) }, true},
		"strange": {func(r *rig) { r.bytes(0, "\xd0\x00", api.ErrKind) }, true},
		"topic":   {func(r *rig) { r.bytes(0, "\x30\x03\x00\x01#", api.ErrTopic) }, true},
		"late":    {func(r *rig) { r.tick(16) }, true},
	} {
		r := newRig(t)
		r.come(1, named("b", true), false)
		r.wish(1, filter("#", 2))
		c := willed("a", false, will)
		c.Keep = 10
		r.come(0, c, false)
		x.end(r)
		r.closed(0, true)
		at := r.b.Clock()
		if x.left {
			r.want(1, pub(1, msg("w", "bye", 1)))
			same(t, name+": Log", r.b.Log(), []api.Entry{{At: at, From: "a", Will: true, M: will}})
			same(t, name+": Retained", r.b.Retained(), []api.Msg{will})
		} else {
			r.want(1)
			same(t, name+": Log", r.b.Log(), nil)
		}
		if s := r.b.Session("a"); s == nil || s.Online() {
			t.Errorf("%s: a session that stays is let go", name)
		}
	}
	r := newRig(t)
	r.open(0)
	r.bytes(0, "\xc0\x00", api.ErrProto)
	r.closed(0, true)
	if len(r.b.Log()) != 0 {
		t.Error("nobody came")
	}
}

func TestKeep(t *testing.T) {
	r := newRig(t)
	keep := func(client string, n int) api.Connect {
		x := willed(client, true, msg("w/"+client, "x", 0))
		x.Keep = n
		return x
	}
	r.come(0, keep("a", 10), false)
	r.come(1, keep("b", 3), false)
	r.come(2, keep("c", 0), false)
	r.come(3, keep("d", 10), false)
	r.tick(4)
	r.closed(1, false)
	r.tick(1) // 5 is more than 4
	r.closed(1, true)
	r.tick(10)
	r.closed(0, false)
	r.send(0, api.Packet{Kind: api.PPingreq})
	r.want(0, api.Packet{Kind: api.PPingresp})
	r.do(api.Event{K: api.EvBytes, Conn: 3, Data: "\xc0"}, api.OK)
	r.do(api.Event{K: api.EvServe, Conn: 3}, api.OK) // no packet was there
	r.tick(1)
	r.closed(3, true)
	r.closed(0, false)
	r.tick(14)
	r.closed(0, false)
	r.tick(1)
	r.closed(0, true)
	r.tick(1000)
	r.closed(2, false)
	var wills []string
	for _, x := range r.b.Log() {
		wills = append(wills, x.From+strconv.Itoa(x.At))
	}
	same(t, "wills", wills, []string{"b5", "d16", "a31"})
	r.come(4, keep("e", 4), false)
	r.come(5, keep("f", 2), false)
	r.tick(100)
	l := r.b.Log()
	if len(l) != 5 || l[3].From != "f" || l[4].From != "e" {
		t.Errorf("the earlier ones first: %v", l)
	}
	r.come(6, keep("h", 1), false)
	r.tick(1)
	r.closed(6, false)
	r.tick(1)
	r.closed(6, true)
	r.come(4, keep("e", 4), false)
	r.close(4)
	r.come(4, keep("g", 0), false)
	r.tick(100)
	r.closed(4, false) // the clock of the one ahead was let go
}

func TestSubscribe(t *testing.T) {
	r := newRig(t)
	r.come(0, named("a", true), false)
	r.come(1, named("b", true), false)
	for i, topic := range []string{"t/2", "t/1", "u"} {
		m := msg(topic, "x", i)
		m.Retain = true
		r.send(1, pub(min(i, 1)*7, m))
	}
	r.send(0, api.Packet{Kind: api.PSubscribe, Id: 5, Filters: []api.Filter{filter("t/+", 1), filter("a+", 1), filter("u", 1), filter("#", 0)}})
	stay := func(topic string, qos int) api.Msg { return api.Msg{Topic: topic, Text: "x", Qos: qos, Retain: true} }
	r.want(0, api.Packet{Kind: api.PSuback, Id: 5, Codes: []int{1, api.SubFailed, 1, 0}},
		pub(1, stay("t/1", 1)), pub(0, stay("t/2", 0)), pub(2, stay("u", 1)), pub(0, stay("t/1", 0)), pub(0, stay("t/2", 0)), pub(0, stay("u", 0)))
	same(t, "Filters", r.b.Filters("a"), []api.Filter{filter("#", 0), filter("t/+", 1), filter("u", 1)})
	var l []api.Filter
	for i := range api.MaxFilters {
		l = append(l, filter("f/"+strconv.Itoa(i), 0))
	}
	r.send(0, api.Packet{Kind: api.PSubscribe, Id: 6, Filters: l})
	for i := range l {
		l[i].Text = "g" + l[i].Text
	}
	r.send(0, api.Packet{Kind: api.PSubscribe, Id: 7, Filters: l})
	r.want(0, api.Packet{Kind: api.PSuback, Id: 6, Codes: make([]int, 8)}, api.Packet{Kind: api.PSuback, Id: 7, Codes: []int{0, 0, 0, 0, 0, 128, 128, 128}})
	r.send(0, api.Packet{Kind: api.PUnsubscribe, Id: 8, Filters: []api.Filter{{Text: "#"}, {Text: "none"}, {Text: "a+"}, {Text: "u"}}})
	r.want(0, id(api.PUnsuback, 8))
	r.send(1, pub(0, msg("u", "y", 0)), pub(0, msg("t/1", "y", 0)))
	r.want(0, pub(0, msg("t/1", "y", 0)))
}

func TestRetainedFull(t *testing.T) {
	r := newRig(t)
	r.come(0, named("a", true), false)
	for i := range api.MaxRetained + 2 {
		r.send(0, pub(0, api.Msg{Topic: "t/" + strconv.Itoa(i), Text: "x", Retain: true}))
	}
	same(t, "Counts", r.b.Counts(), api.Counts{Retained: 2})
	if len(r.b.Retained()) != api.MaxRetained || len(r.b.Log()) != api.MaxRetained+2 {
		t.Errorf("Retained: %v", r.b.Retained())
	}
	r.send(0, pub(0, api.Msg{Topic: "t/0", Retain: true}), pub(0, msg("t/1", "", 0)))
	if len(r.b.Retained()) != api.MaxRetained-1 {
		t.Errorf("an empty text lets it go, without Retain not: %d", len(r.b.Retained()))
	}
}

func TestDrops(t *testing.T) {
	r := newRig(t)
	r.come(0, named("a", false), false)
	r.wish(0, filter("t", 1))
	r.wish(0, filter("u", 0))
	r.close(0)
	r.come(1, named("b", true), false)
	for range api.MaxQueue {
		r.send(1, pub(1, msg("t", "x", 1)))
	}
	r.send(1, pub(0, msg("t", "x", 0)), pub(1, msg("u", "x", 1)))
	same(t, "Counts", r.b.Counts(), api.Counts{})
	r.send(1, pub(1, msg("t", "x", 2)), pub(1, msg("t", "x", 1)))
	same(t, "Counts", r.b.Counts(), api.Counts{Drops: 2})
	if r.b.Session("a").Lost() != 2 {
		t.Errorf("Lost: %d", r.b.Session("a").Lost())
	}
}

// TestRetainedDrops: messages that stay, and find the queue of who comes late full, are counted one by one.
func TestRetainedDrops(t *testing.T) {
	r := newRig(t)
	r.come(1, named("b", true), false)
	for i := range api.MaxRetained {
		r.send(1, pub(1, api.Msg{Topic: "t/" + strconv.Itoa(i), Text: "x", Qos: 1, Retain: true}))
	}
	r.come(0, named("a", true), false)
	r.send(0, api.Packet{Kind: api.PSubscribe, Id: 1, Filters: []api.Filter{filter("#", 1)}})
	if got := r.out(0); len(got) != 1+api.MaxFlight {
		t.Errorf("%d went out", len(got))
	}
	same(t, "Counts", r.b.Counts(), api.Counts{Drops: api.MaxRetained - api.MaxFlight - api.MaxQueue})
}

func TestAsks(t *testing.T) {
	r := newRig(t)
	r.come(0, named("host", true), false)
	r.wish(0, filter("spBv1.0/+/NCMD/#", 2))
	r.come(1, named("n", true), false)
	r.tick(3)
	r.send(1, pub(0, msg("a", "x", 0)), pub(0, msg(spTopic("NDATA", "n"), load(0), 0)))
	ask := pub(0, msg(spTopic("NCMD", "n"), string(payload.Rebirth()), 0))
	r.want(0, ask)
	r.tick(9)
	r.send(1, pub(0, msg(spTopic("NDATA", "n"), "\xff", 0)))
	r.want(0)
	r.tick(1)
	r.send(1, pub(0, msg(spTopic("DDATA", "n/d"), "\xff", 0)))
	r.want(0, ask)
	same(t, "Asks", r.b.Asks(), []api.Ask{{At: 3, Place: 2, Group: "g", Node: "n"}, {At: 13, Place: 4, Group: "g", Node: "n"}})
	if len(r.b.Log()) != 4 || r.b.Spark().Asked() != 2 {
		t.Errorf("the ask is no entry: %v", r.b.Log())
	}
	if v := r.b.Spark().Nodes(); len(v) != 1 || !v[0].Pending {
		t.Errorf("Nodes: %v", v)
	}
}

// TestAskBehindMessage: who wants all gets the message ahead of the ask.
func TestAskBehindMessage(t *testing.T) {
	r := newRig(t)
	r.come(0, named("a", true), false)
	r.wish(0, filter("#", 0))
	m := msg(spTopic("NDATA", "n"), "\xff", 0)
	r.send(0, pub(0, m))
	r.want(0, pub(0, m), pub(0, msg(spTopic("NCMD", "n"), string(payload.Rebirth()), 0)))
}

func TestBirths(t *testing.T) {
	r := newRig(t)
	r.come(1, named("n", true), false)
	nb, db := load(0, num("bdSeq", 1), num("x", 1)), load(1, num("y", 2))
	for _, m := range []api.Msg{msg(spTopic("NBIRTH", "n"), nb, 0), msg(spTopic("DBIRTH", "n/e"), db, 0), msg(spTopic("DBIRTH", "n/d"), load(2), 2), msg(spTopic("NBIRTH", "m"), nb, 0), msg(spTopic("DBIRTH", "m/d"), db, 0), msg(spTopic("DDEATH", "m/d"), load(2), 0)} {
		r.send(1, pub(m.Qos, m))
	}
	r.come(0, named("a", true), false)
	r.send(0, api.Packet{Kind: api.PSubscribe, Id: 5, Filters: []api.Filter{filter("spBv1.0/+/NBIRTH/+", 0), filter("spBv1.0/#", 2), filter("spBv1.0/g/DBIRTH/n/+", 1), filter("x+", 2)}})
	want := []api.Packet{
		{Kind: api.PSuback, Id: 5, Codes: []int{0, 2, 1, 128}},
		pub(1, msg(spTopic("NBIRTH", "m"), nb, 1)), pub(2, msg(spTopic("NBIRTH", "n"), nb, 1)), pub(3, msg(spTopic("DBIRTH", "n/d"), load(2), 1)), pub(4, msg(spTopic("DBIRTH", "n/e"), db, 1)),
	}
	r.want(0, want...)
	r.send(0, api.Packet{Kind: api.PSubscribe, Id: 6, Filters: []api.Filter{filter("spBv1.0/g/DBIRTH/#", 0)}})
	r.want(0, api.Packet{Kind: api.PSuback, Id: 6, Codes: []int{0}}, pub(0, msg(spTopic("DBIRTH", "n/d"), load(2), 0)), pub(0, msg(spTopic("DBIRTH", "n/e"), db, 0)))
	r.send(0, api.Packet{Kind: api.PSubscribe, Id: 7, Filters: []api.Filter{filter("spBv1.0/g/NDATA/#", 1)}})
	r.want(0, api.Packet{Kind: api.PSuback, Id: 7, Codes: []int{1}})
	if len(r.b.Log()) != 6 {
		t.Errorf("births that are told are no entries: %d", len(r.b.Log()))
	}
}

// TestGreatBirth: a birth that has no room for a number is told with Qos 0.
func TestGreatBirth(t *testing.T) {
	topic := spTopic("NBIRTH", "z")
	head := load(0, num("bdSeq", 1))
	for _, x := range []struct{ size, qos int }{{api.MaxRemain - 4, 1}, {api.MaxRemain - 3, 0}, {api.MaxRemain - 2, 0}} {
		r := newRig(t)
		body := x.size - len(topic) - len(head) - 3
		text := head + "\x2a" + string([]byte{byte(body) | 0x80, byte(body >> 7)}) + strings.Repeat("z", body)
		r.come(1, named("n", true), false)
		r.send(1, pub(0, msg(topic, text, 0)))
		if len(r.b.Spark().Born()) != 1 {
			t.Fatalf("a birth of %d bytes: %v", x.size, r.b.Spark().Nodes())
		}
		r.come(0, named("a", true), false)
		r.wish(0, filter("#", 2), pub(x.qos, msg(topic, text, x.qos)))
	}
}

// TestCut: where the queue is full the rest of the births is left, and counted.
func TestCut(t *testing.T) {
	r := newRig(t)
	r.come(1, named("n", true), false)
	var topics []string
	for i := range api.MaxNodes {
		name := "n" + strconv.Itoa(i)
		r.send(1, pub(0, msg(spTopic("NBIRTH", name), load(0, num("bdSeq", 1)), 0)))
		topics = append(topics, spTopic("NBIRTH", name))
		for d := range api.MaxDevices {
			dev := name + "/d" + strconv.Itoa(d)
			r.send(1, pub(0, msg(spTopic("DBIRTH", dev), load(d+1), 0)))
			topics = append(topics, spTopic("DBIRTH", dev))
		}
	}
	r.come(0, named("a", false), false)
	r.send(0, api.Packet{Kind: api.PSubscribe, Id: 1, Filters: []api.Filter{filter("#", 1)}})
	total := api.MaxFlight + api.MaxQueue
	same(t, "Counts", r.b.Counts(), api.Counts{Cut: len(topics) - total})
	var got []string
	for _, p := range r.out(0)[1:] {
		got = append(got, p.M.Topic)
	}
	for _, m := range r.b.Session("a").Queue() {
		got = append(got, m.Topic)
	}
	same(t, "told", got, topics[:total])
	r.send(0, api.Packet{Kind: api.PSubscribe, Id: 2, Filters: []api.Filter{filter("spBv1.0/g/NBIRTH/n0", 1)}})
	same(t, "Counts", r.b.Counts(), api.Counts{Cut: len(topics) - total + 1})
	r.want(0, api.Packet{Kind: api.PSuback, Id: 2, Codes: []int{1}})
	r.send(0, api.Packet{Kind: api.PSubscribe, Id: 3, Filters: []api.Filter{filter("#", 0)}})
	if l := r.out(0); len(l) != 1+len(topics) {
		t.Errorf("of Qos 0 all go out: %d", len(l))
	}
	same(t, "Counts", r.b.Counts(), api.Counts{Cut: len(topics) - total + 1})
}

func TestRun(t *testing.T) {
	b := New()
	l := []api.Event{{K: api.EvOpen}, {K: api.EvOpen}, {K: 9}, {K: api.EvTick, N: 5}, {K: api.EvServe, Conn: 1}}
	if n := b.Run(l); n != 2 || b.Clock() != 5 || len(b.Links()) != 1 {
		t.Errorf("Run: %d", n)
	}
	if n := b.Run(nil); n != 0 {
		t.Errorf("Run of nothing: %d", n)
	}
	many := make([]api.Event, 2001)
	for i := range many {
		many[i] = api.Event{K: api.EvTick, N: 1}
	}
	if n := New().Run(many[:2000]); n != 2000 {
		t.Errorf("Run of 2000: %d", n)
	}
	b = New()
	if n := b.Run(many); n != 2000 || b.Clock() != 2000 {
		t.Errorf("Run of more: %d, clock %d", n, b.Clock())
	}
}

func TestAnswersAreOwn(t *testing.T) {
	r := newRig(t)
	r.come(0, named("a", true), false)
	r.wish(0, filter("f", 0))
	r.send(0, pub(0, api.Msg{Topic: spTopic("NDATA", "n"), Text: "x", Retain: true}))
	r.b.Log()[0].From, r.b.Asks()[0].Node, r.b.Links()[0].Out, r.b.Retained()[0].Text, r.b.Filters("a")[0].Text = "z", "z", "z", "z", "z"
	if r.b.Log()[0].From != "a" || r.b.Asks()[0].Node != "n" || r.b.Links()[0].Out == "z" || r.b.Retained()[0].Text != "x" || r.b.Filters("a")[0].Text != "f" {
		t.Error("what was answered is kept")
	}
}

func TestNone(t *testing.T) {
	for _, b := range []*Broker{nil, {}, new(Broker)} {
		for k := -1; k < 6; k++ {
			if e := b.Do(api.Event{K: k, Conn: -1, N: -1}); e != api.ErrZero {
				t.Errorf("Do: %d", e)
			}
		}
		if b.Run([]api.Event{{K: api.EvOpen}}) != 0 || b.Clock() != 0 || len(b.Links()) != 0 || len(b.Log()) != 0 || len(b.Asks()) != 0 || b.Counts() != (api.Counts{}) {
			t.Error("of none: 0, none, the zero Counts")
		}
		if len(b.Retained()) != 0 || len(b.Filters("a")) != 0 || b.Session("a") != nil || b.Sessions() != 0 || b.Spark() != nil {
			t.Error("of none: 0, none, nil")
		}
	}
	if b := New(); b.Spark() == nil || b.Session("a") != nil || len(b.Links()) != 0 {
		t.Error("of a new one")
	}
}
