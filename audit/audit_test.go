package audit

import (
	"strconv"
	"strings"
	"testing"

	"crier/api"
	"crier/broker"
	"crier/packet"
	"crier/payload"
	"crier/spark"
)

// all are the checks, by their names.
func all() map[string]func(*broker.Broker) api.Errno {
	return map[string]func(*broker.Broker) api.Errno{"Caps": Caps, "Wires": Wires, "Folds": Folds, "Births": Births, "Asks": Asks, "Whole": Whole}
}

func TestNoneAndNew(t *testing.T) {
	for name, check := range all() {
		for _, b := range []*broker.Broker{nil, {}, new(broker.Broker)} {
			if e := check(b); e != api.ErrZero {
				t.Errorf("%s of none: %d", name, e)
			}
		}
		if e := check(broker.New()); e != api.OK {
			t.Errorf("%s of a new one: %d", name, e)
		}
	}
}

func TestCaps(t *testing.T) {
	nodes := func(n, devices, own, theirs int) []api.NodeView {
		l := make([]api.NodeView, n)
		l[n-1] = api.NodeView{Items: make([]api.Item, own), Devices: make([]api.DeviceView, devices)}
		l[n-1].Devices[devices-1].Items = make([]api.Item, theirs)
		return l
	}
	for name, x := range map[string]struct {
		e    api.Errno
		want api.Errno
	}{
		"full":        {caps(8, 8, 32, 1<<30, nodes(8, 4, 32, 32), make([]api.HostView, 4)), api.OK},
		"nothing":     {caps(0, 0, 0, 0, nil, nil), api.OK},
		"connections": {caps(9, 8, 32, 1<<30, nil, nil), api.ErrRange},
		"sessions":    {caps(8, 9, 32, 1<<30, nil, nil), api.ErrRange},
		"retained":    {caps(8, 8, 33, 1<<30, nil, nil), api.ErrRange},
		"clock":       {caps(8, 8, 32, 1<<30+1, nil, nil), api.ErrRange},
		"nodes":       {caps(0, 0, 0, 0, nodes(9, 1, 0, 0), nil), api.ErrRange},
		"devices":     {caps(0, 0, 0, 0, nodes(8, 5, 0, 0), nil), api.ErrRange},
		"items":       {caps(0, 0, 0, 0, nodes(3, 1, 33, 0), nil), api.ErrRange},
		"theirs":      {caps(0, 0, 0, 0, nodes(3, 4, 0, 33), nil), api.ErrRange},
		"hosts":       {caps(0, 0, 0, 0, nil, make([]api.HostView, 5)), api.ErrRange},
	} {
		if x.e != x.want {
			t.Errorf("%s: %d, want %d", name, x.e, x.want)
		}
	}
	b := broker.New()
	for range 3 { // connections that are closed do not count
		for place := range api.MaxConns {
			b.Do(api.Event{K: api.EvOpen, Conn: place})
			b.Do(api.Event{K: api.EvClose, Conn: place})
		}
	}
	if e := Caps(b); e != api.OK || len(b.Links()) != 24 {
		t.Errorf("closed connections: %d", e)
	}
}

func TestWires(t *testing.T) {
	const ack, pong = "\x20\x02\x00\x00", "\xd0\x00"
	for _, x := range []struct {
		outs []string
		want api.Errno
	}{
		{nil, api.OK}, {[]string{"", ack, ack + pong + pong, pong}, api.OK}, {[]string{ack, ack + "\xd0"}, api.ErrForm}, {[]string{ack + "\x40\x02\x00"}, api.ErrForm}, {[]string{"\x00"}, api.ErrForm}, {[]string{ack + "\xd0\x01x"}, api.ErrForm},
		{[]string{ack + ack}, api.ErrForm}, {[]string{ack, pong + ack}, api.ErrForm}, {[]string{ack + pong + ack}, api.ErrForm},
	} {
		var l []api.Link
		for _, s := range x.outs {
			l = append(l, api.Link{Out: s})
		}
		if e := wires(l); e != x.want {
			t.Errorf("%x: %d, want %d", x.outs, e, x.want)
		}
	}
}

func num(name string, n uint64) api.Metric {
	return api.Metric{Name: name, V: api.Value{K: api.VInt, N: n}}
}

func load(seq int, l ...api.Metric) string {
	b, _ := payload.Put(api.Payload{HasSeq: true, Seq: uint64(seq), Metrics: l})
	return string(b)
}

func topic(word, rest string) string { return "spBv1.0/g/" + word + "/" + rest }

// lives are the entries of a node's life, with a device, and a host.
func lives() []api.Entry {
	return []api.Entry{
		{M: api.Msg{Topic: topic("NBIRTH", "n"), Text: load(0, num("bdSeq", 1), num("x", 1))}}, {M: api.Msg{Topic: topic("DBIRTH", "n/d"), Text: load(1, num("y", 1))}},
		{At: 5, M: api.Msg{Topic: topic("NDATA", "n"), Text: load(2, num("x", 7))}}, {M: api.Msg{Topic: "spBv1.0/STATE/h", Text: "ONLINE"}}, {M: api.Msg{Topic: "a", Text: "b"}},
	}
}

func fold(l []api.Entry) *spark.Spark {
	s := spark.New()
	for _, x := range l {
		s.Take(x.At, x.M)
	}
	return s
}

func TestFolds(t *testing.T) {
	known := fold(lives())
	if e := folds(lives(), known); e != api.OK {
		t.Errorf("the same: %d", e)
	}
	for i := range lives() {
		less := append(lives()[:i], lives()[i+1:]...)
		want := api.ErrUsed
		if i == 4 {
			want = api.OK
		}
		if e := folds(less, known); e != want {
			t.Errorf("without entry %d: %d, want %d", i, e, want)
		}
	}
	for name, m := range map[string]api.Msg{
		"another node": {Topic: topic("NDATA", "m")}, "pending": {Topic: topic("NDATA", "n")}, "number": {Topic: topic("NDATA", "n"), Text: load(3)}, "value": {Topic: topic("DDATA", "n/d"), Text: load(3, num("y", 2))},
		"device": {Topic: topic("DDEATH", "n/d"), Text: load(3)}, "host": {Topic: "spBv1.0/STATE/h", Text: "OFFLINE"}, "birth's bytes": {Topic: topic("NBIRTH", "n"), Text: load(0, num("bdSeq", 1), num("x", 1)) + "\x22\x01u"},
	} {
		if e := folds(append(lives(), api.Entry{M: m}), known); e != api.ErrUsed {
			t.Errorf("%s: %d", name, e)
		}
	}
	b := broker.New()
	b.Spark().Take(0, lives()[0].M)
	if Folds(b) != api.ErrUsed || Whole(b) != api.ErrUsed || Births(b) != api.OK {
		t.Error("a spark that took more than the log has")
	}
}

func TestSameNode(t *testing.T) {
	node := func() api.NodeView {
		return api.NodeView{Group: "g", Name: "n", Online: true, Bd: 1, Next: 2, Pending: true, Items: []api.Item{{Name: "x"}}, Devices: []api.DeviceView{{Name: "d", Online: true, Items: []api.Item{{Name: "y"}}}}}
	}
	if !sameNode(node(), node()) || !sameNode(api.NodeView{}, api.NodeView{Items: []api.Item{}, Devices: []api.DeviceView{}}) {
		t.Error("the same")
	}
	for i, change := range []func(n *api.NodeView){
		func(n *api.NodeView) { n.Group = "h" }, func(n *api.NodeView) { n.Name = "m" }, func(n *api.NodeView) { n.Online = false }, func(n *api.NodeView) { n.Bd = 0 }, func(n *api.NodeView) { n.Next = 0 }, func(n *api.NodeView) { n.Pending = false },
		func(n *api.NodeView) { n.Items[0].Null = true }, func(n *api.NodeView) { n.Devices = nil }, func(n *api.NodeView) { n.Devices[0].Name = "e" }, func(n *api.NodeView) { n.Devices[0].Online = false }, func(n *api.NodeView) { n.Devices[0].Items = nil },
	} {
		n := node()
		change(&n)
		if sameNode(n, node()) || sameNode(node(), n) {
			t.Errorf("change %d is not seen", i)
		}
	}
}

func TestBirths(t *testing.T) {
	s := fold(lives())
	nodes, born := s.Nodes(), s.Born()
	if e := births(nodes, born); e != api.OK || len(born) != 2 {
		t.Errorf("those that are online: %d", e)
	}
	other := []api.Birth{born[0], {Topic: topic("DBIRTH", "n/e")}}
	more := append(fold(lives()).Born(), api.Birth{Topic: topic("NBIRTH", "m")})
	dead := fold(append(lives(), api.Entry{M: api.Msg{Topic: topic("NDEATH", "n"), Text: load(0, num("bdSeq", 1))}}))
	for name, e := range map[string]api.Errno{"fewer": births(nodes, born[:1]), "none": births(nodes, nil), "another": births(nodes, other), "more": births(nodes, more), "of no node": births(nil, born), "of the dead": births(dead.Nodes(), born)} {
		if e != api.ErrNone {
			t.Errorf("%s: %d", name, e)
		}
	}
	if e := births(dead.Nodes(), dead.Born()); e != api.OK || len(dead.Born()) != 0 {
		t.Errorf("of the dead: %d", e)
	}
}

func TestAsks(t *testing.T) {
	ask := func(at, place int, node string) api.Ask { return api.Ask{At: at, Place: place, Group: "g", Node: node} }
	for name, x := range map[string]struct {
		l    []api.Ask
		want api.Errno
	}{
		"none": {nil, api.OK}, "apart": {[]api.Ask{ask(0, 1, "n"), ask(10, 2, "n"), ask(20, 9, "n")}, api.OK}, "of others": {[]api.Ask{ask(0, 1, "n"), ask(0, 2, "m"), {At: 0, Place: 2, Group: "h", Node: "n"}}, api.OK}, "of one place": {[]api.Ask{ask(0, 3, "n"), ask(0, 3, "m")}, api.OK},
		"near": {[]api.Ask{ask(0, 1, "n"), ask(9, 2, "n")}, api.ErrUsed}, "near with others between": {[]api.Ask{ask(0, 1, "n"), ask(5, 2, "m"), ask(9, 3, "n")}, api.ErrUsed}, "near, later": {[]api.Ask{ask(20, 1, "n"), ask(29, 2, "n")}, api.ErrUsed}, "apart, later": {[]api.Ask{ask(3, 1, "n"), ask(13, 2, "n")}, api.OK}, "at one time": {[]api.Ask{ask(4, 1, "n"), ask(4, 2, "n")}, api.ErrUsed},
		"falls": {[]api.Ask{ask(0, 2, "n"), ask(10, 1, "n")}, api.ErrUsed}, "falls, of others": {[]api.Ask{ask(0, 5, "n"), ask(10, 4, "m")}, api.ErrUsed}, "ahead of all": {[]api.Ask{ask(0, 0, "n")}, api.ErrUsed}, "behind all": {[]api.Ask{ask(0, 10, "n")}, api.ErrUsed}, "below": {[]api.Ask{ask(0, -1, "n")}, api.ErrUsed},
	} {
		if e := asks(x.l, 9); e != x.want {
			t.Errorf("%s: %d, want %d", name, e, x.want)
		}
	}
}

// TestWholeBehindAnyScript plays scripts that look like chance: all holds behind each of them.
func TestWholeBehindAnyScript(t *testing.T) {
	for seed := range 40 {
		n := uint32(seed)
		next := func(most int) int {
			n = n*1664525 + 1013904223
			return int(n>>16) % most
		}
		b := broker.New()
		for range 500 {
			place := next(api.MaxConns)
			switch next(12) {
			case 0:
				b.Do(api.Event{K: api.EvTick, N: next(12)})
			case 1:
				b.Do(api.Event{K: api.EvClose, Conn: place})
			case 2, 3:
				x := api.Connect{Level: 4, Client: "c" + strconv.Itoa(next(10)), Clean: next(2) == 0, Keep: next(30)}
				if next(2) == 0 {
					x.HasWill, x.Will = true, message(next)
				}
				b.Do(api.Event{K: api.EvOpen, Conn: place})
				serve(b, place, api.Packet{Kind: api.PConnect, C: x})
			case 4:
				f := api.Filter{Text: []string{"#", "spBv1.0/#", topic("NBIRTH", "+"), "a+"}[next(4)], Qos: next(3)}
				serve(b, place, api.Packet{Kind: api.PSubscribe, Id: 1 + next(9), Filters: []api.Filter{f}})
			case 5:
				serve(b, place, api.Packet{Kind: []int{api.PPuback, api.PPubrec, api.PPubcomp, api.PPubrel}[next(4)], Id: 1 + next(8)})
			case 6:
				b.Do(api.Event{K: api.EvBytes, Conn: place, Data: strings.Repeat("\xc0\x00\x30", next(3))})
			default:
				m := message(next)
				serve(b, place, api.Packet{Kind: api.PPublish, Id: min(m.Qos, 1) * (1 + next(30)), M: m})
			}
			if next(50) == 0 {
				whole(t, b)
			}
		}
		whole(t, b)
	}
}

func whole(t *testing.T, b *broker.Broker) {
	t.Helper()
	for name, check := range all() {
		if e := check(b); e != api.OK {
			t.Fatalf("%s: %d", name, e)
		}
	}
}

func serve(b *broker.Broker, place int, p api.Packet) {
	data, _ := packet.Put(p)
	b.Do(api.Event{K: api.EvBytes, Conn: place, Data: string(data)})
	b.Do(api.Event{K: api.EvServe, Conn: place})
}

func message(next func(int) int) api.Msg {
	node := "n" + strconv.Itoa(next(10))
	if next(2) == 0 {
		node = "n0"
	}
	m := api.Msg{Qos: next(3), Retain: next(5) == 0}
	m.Topic = topic([]string{"NBIRTH", "NDEATH", "NDATA"}[next(3)], node)
	switch next(5) {
	case 0:
		m.Topic = "t/" + strconv.Itoa(next(50))
	case 1:
		m.Topic = topic([]string{"DBIRTH", "DDEATH", "DDATA"}[next(3)], node+"/d"+strconv.Itoa(next(6)))
	case 2:
		m.Topic = "spBv1.0/STATE/h" + strconv.Itoa(next(6))
	}
	m.Text = load(next(4), num("bdSeq", uint64(next(2))), num("x", uint64(next(9))))
	if next(8) == 0 {
		m.Text = []string{"\xff", "ONLINE", "OFFLINE", ""}[next(4)]
	}
	return m
}
