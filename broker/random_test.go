package broker

import (
	"slices"
	"strconv"
	"testing"

	"crier/api"
	"crier/packet"
	"crier/spark"
)

// chance is a row of numbers that looks like chance, and is the same each time.
type chance uint32

func (c *chance) next(most int) int {
	*c = *c*1664525 + 1013904223
	return int(*c>>16) % most
}

func (c *chance) pick(l ...string) string { return l[c.next(len(l))] }

// step is what happens on a place: bytes that come whole, or another event.
type step struct {
	e     api.Event
	bytes string
}

// script makes up steps: clients that come, publish, wish, answer and go, in any order, and now and then what can't be.
func script(seed chance, n int) []step {
	c := &seed
	var l []step
	for range n {
		place := c.next(4)
		packets := []api.Packet{randomPacket(c)}
		switch c.next(20) {
		case 0:
			l = append(l, step{e: api.Event{K: api.EvTick, N: c.next(8)}})
			continue
		case 1:
			l = append(l, step{e: api.Event{K: api.EvClose, Conn: place}})
			continue
		case 2, 3, 4, 5:
			l = append(l, step{e: api.Event{K: api.EvOpen, Conn: place}})
			x := named("c"+strconv.Itoa(c.next(4)), c.next(3) == 0)
			x.Keep = c.next(20)
			if c.next(2) == 0 {
				x.HasWill, x.Will = true, randomMsg(c)
			}
			packets = []api.Packet{comes(x)}
		case 6:
			l = append(l, step{e: api.Event{K: api.EvBytes, Conn: place}, bytes: c.pick("\x00", "\xd0\x00", "\x30\x03\x00\x01#", "\xc0")})
			continue
		}
		for _, p := range packets {
			b, _ := packet.Put(p)
			l = append(l, step{e: api.Event{K: api.EvBytes, Conn: place}, bytes: string(b)})
			l = append(l, step{e: api.Event{K: api.EvServe, Conn: place}})
		}
	}
	return l
}

func randomPacket(c *chance) api.Packet {
	m := randomMsg(c)
	n := 1 + c.next(4)
	switch c.next(10) {
	case 0, 1, 2, 3:
		return pub(min(m.Qos, 1)*n, m)
	case 4:
		return api.Packet{Kind: api.PSubscribe, Id: n, Filters: []api.Filter{filter(c.pick("#", "t/+", "spBv1.0/#", "spBv1.0/+/NBIRTH/+", "a+"), c.next(3)), filter(c.pick("t/1", "spBv1.0/g/+/n0/#"), c.next(3))}}
	case 5:
		return api.Packet{Kind: api.PUnsubscribe, Id: n, Filters: []api.Filter{{Text: c.pick("#", "t/+", "none")}}}
	case 6, 7:
		return id([]int{api.PPuback, api.PPubrec, api.PPubcomp, api.PPubrel}[c.next(4)], n)
	case 8:
		return api.Packet{Kind: api.PPingreq}
	}
	if c.next(4) == 0 {
		return api.Packet{Kind: api.PDisconnect}
	}
	m.Qos = 0
	return pub(0, m)
}

func randomMsg(c *chance) api.Msg {
	node := "n" + strconv.Itoa(c.next(3))
	m := api.Msg{Qos: c.next(3), Retain: c.next(6) == 0}
	switch c.next(8) {
	case 0, 1:
		m.Topic, m.Text = "t/"+strconv.Itoa(c.next(3)), c.pick("", "x", "yy")
	case 2, 3:
		m.Topic, m.Text = spTopic("NBIRTH", node), load(0, num("bdSeq", uint64(c.next(2))), num("x", 1))
	case 4:
		m.Topic, m.Text = spTopic(c.pick("NDATA", "NDEATH"), node), load(1+c.next(3), num("bdSeq", uint64(c.next(2))))
	case 5:
		m.Topic, m.Text = spTopic(c.pick("DBIRTH", "DDATA", "DDEATH"), node+"/d"+strconv.Itoa(c.next(3))), load(1+c.next(3), num("y", 1))
	case 6:
		m.Topic, m.Text = "spBv1.0/STATE/h"+strconv.Itoa(c.next(6)), c.pick("ONLINE", "OFFLINE", "x")
	default:
		m.Topic, m.Text = spTopic("NDATA", node), "\xff"
	}
	return m
}

// play lets steps happen, with bytes in chunks of a size at most; 0: whole.
func play(l []step, size int) *Broker {
	b := New()
	for _, s := range l {
		if s.e.K != api.EvBytes || size == 0 {
			s.e.Data = s.bytes
			b.Do(s.e)
			continue
		}
		for at := 0; at < len(s.bytes); at += size {
			s.e.Data = s.bytes[at:min(at+size, len(s.bytes))]
			b.Do(s.e)
		}
	}
	return b
}

// TestChunks: how bytes come in chunks plays no part.
func TestChunks(t *testing.T) {
	for seed := range 12 {
		l := script(chance(seed), 400)
		whole := play(l, 0)
		if len(whole.Log()) < 20 {
			t.Errorf("script %d: only %d entries", seed, len(whole.Log()))
		}
		for _, size := range []int{1, 2, 3, 7, 50} {
			b := play(l, size)
			same(t, "Links", b.Links(), whole.Links())
			same(t, "Log", b.Log(), whole.Log())
			same(t, "Asks", b.Asks(), whole.Asks())
			same(t, "Counts", b.Counts(), whole.Counts())
			same(t, "Retained", b.Retained(), whole.Retained())
			same(t, "Nodes", b.Spark().Nodes(), whole.Spark().Nodes())
		}
	}
}

// TestLogAlone: what the spark knows is what it knows of the log alone, and what went out is whole.
func TestLogAlone(t *testing.T) {
	for seed := range 30 {
		b := play(script(chance(100+seed), 600), 0)
		fresh := spark.New()
		var asks []api.Ask
		for i, x := range b.Log() {
			if v := fresh.Take(x.At, x.M); v.Ask {
				asks = append(asks, api.Ask{At: x.At, Place: i + 1, Group: v.Group, Node: v.Node})
			}
		}
		same(t, "Nodes", b.Spark().Nodes(), fresh.Nodes())
		same(t, "Hosts", b.Spark().Hosts(), fresh.Hosts())
		same(t, "Born", b.Spark().Born(), fresh.Born())
		same(t, "Asks", b.Asks(), asks)
		for _, x := range b.Links() {
			if l, n, e := packet.All(x.Out); n != len(x.Out) || e != api.OK || len(l) > 0 && l[0].Kind != api.PConnack {
				t.Errorf("what went out is not whole: %x", x.Out)
			}
		}
		last := map[string]int{}
		for _, x := range b.Asks() {
			if at, ok := last[x.Node]; ok && x.At-at < api.RebirthTick {
				t.Errorf("asked too often: %v", b.Asks())
			}
			last[x.Node] = x.At
		}
		stays := map[string]string{}
		for _, x := range b.Log() {
			if x.M.Retain && x.M.Text != "" {
				stays[x.M.Topic] = x.M.Text
			} else if x.M.Retain {
				delete(stays, x.M.Topic)
			}
		}
		if len(stays) != len(b.Retained()) {
			t.Errorf("Retained: %v, want %v", b.Retained(), stays)
		}
		for _, m := range b.Retained() {
			if stays[m.Topic] != m.Text {
				t.Errorf("Retained: %v, want %v", m, stays)
			}
		}
	}
}

// taker is a client whose session stays: it answers what comes, and keeps what came for the first time.
type taker struct {
	*rig
	place   int
	first   []api.Msg
	numbers map[int]api.Msg // what is on its way, by its number
	waits   []api.Packet    // answers that are not given yet
}

// take reads what went out, and lays answers ready.
func (x *taker) take() {
	x.Helper()
	for _, p := range x.out(x.place) {
		switch p.Kind {
		case api.PPublish:
			if p.M.Qos == 0 {
				continue
			}
			if m, ok := x.numbers[p.Id]; p.Dup && (!ok || m != p.M) {
				x.Errorf("%v is sent again, but %v had that number", p, m)
			}
			if !p.Dup {
				x.first = append(x.first, p.M)
				x.numbers[p.Id] = p.M
			}
			x.waits = append(x.waits, id([]int{0, api.PPuback, api.PPubrec}[p.M.Qos], p.Id))
		case api.PPubrel:
			x.waits = append(x.waits, id(api.PPubcomp, p.Id))
		}
	}
}

func (x *taker) answer() {
	x.Helper()
	if len(x.waits) > 0 {
		p := x.waits[0]
		x.waits = x.waits[1:]
		x.send(x.place, p)
	}
}

// TestOnceKeptInOrder: to a session that stays each message of a Qos above 0 is sent for the first time once, but for those that were counted, and in the order of the log.
func TestOnceKeptInOrder(t *testing.T) {
	for seed := range 12 {
		c := chance(200 + seed)
		x := &taker{rig: newRig(t), place: 0, numbers: map[int]api.Msg{}}
		x.come(0, named("s", false), false)
		x.wish(0, filter("t/#", 2))
		x.come(1, named("p", true), false)
		x.come(2, named("q", true), false)
		online := true
		sent := 0
		for range 800 {
			switch c.next(12) {
			case 0:
				if online {
					x.close(0)
					online = false
					x.waits = nil
				}
			case 1, 2:
				if !online {
					x.open(0)
					x.send(0, comes(named("s", false)))
					online = true
				}
			case 3, 4, 5:
				m := msg("t/"+strconv.Itoa(c.next(2)), strconv.Itoa(sent), 1+c.next(2))
				sent++
				x.send(1+c.next(2), pub(7, m))
				if m.Qos == 2 {
					x.send(1, id(api.PPubrel, 7))
					x.send(2, id(api.PPubrel, 7))
				}
			default:
				if online {
					x.answer()
				}
			}
			if online {
				x.take()
			}
		}
		if !online {
			x.open(0)
			x.send(0, comes(named("s", false)))
		}
		for x.take(); len(x.waits) > 0; x.take() {
			x.answer()
		}
		lost := x.b.Counts().Drops
		if len(x.first)+lost != sent || len(x.b.Log()) != sent || sent < 100 || lost != x.b.Session("s").Lost() {
			t.Errorf("script %d: %d sent, %d came, %d lost", seed, sent, len(x.first), lost)
		}
		at := 0
		for _, entry := range x.b.Log() {
			if at < len(x.first) && x.first[at] == entry.M {
				at++
			}
		}
		if at != len(x.first) {
			t.Errorf("script %d: what came is not in the order of the log", seed)
		}
		if len(x.b.Session("s").Flight()) != 0 || len(x.b.Session("s").Queue()) != 0 {
			t.Errorf("script %d: something is left", seed)
		}
	}
}

// TestLateGetsTheBorn: who comes late gets just the births of all that are online, in their order.
func TestLateGetsTheBorn(t *testing.T) {
	most := 0
	for seed := range 30 {
		b := play(script(chance(300+seed), 300), 0)
		r := &rig{T: t, b: b, read: map[int]int{}}
		r.open(7)
		r.send(7, comes(named("late", true)))
		r.out(7)
		stay := len(b.Retained())
		r.send(7, api.Packet{Kind: api.PSubscribe, Id: 1, Filters: []api.Filter{filter("spBv1.0/#", 0)}})
		var want []string
		for _, n := range b.Spark().Nodes() {
			if n.Online {
				want = append(want, spTopic("NBIRTH", n.Name))
			}
			for _, d := range n.Devices {
				if d.Online {
					want = append(want, spTopic("DBIRTH", n.Name+"/"+d.Name))
				}
			}
		}
		var got []string
		for _, p := range r.out(7)[1:] {
			if !p.M.Retain {
				got = append(got, p.M.Topic)
				at := slices.IndexFunc(b.Spark().Born(), func(x api.Birth) bool { return x.Topic == p.M.Topic && x.Text == p.M.Text })
				if at < 0 {
					t.Errorf("%v was not born", p.M)
				}
			}
		}
		if !slices.Equal(got, want) || stay > api.MaxRetained {
			t.Errorf("script %d: told %q, want %q", seed, got, want)
		}
		most = max(most, len(want))
	}
	if most < 3 {
		t.Errorf("%d births at most", most)
	}
}
