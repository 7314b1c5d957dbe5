package broker

import (
	"reflect"
	"strconv"
	"testing"

	"crier/api"
	"crier/packet"
	"crier/payload"
)

// rig is a broker whose connections are fed with packets, and whose answers are read as packets.
type rig struct {
	*testing.T
	b    *Broker
	read map[int]int // by link: how many bytes of what went out were read
}

func newRig(t *testing.T) *rig { return &rig{T: t, b: New(), read: map[int]int{}} }

func (r *rig) do(e api.Event, want api.Errno) {
	r.Helper()
	if got := r.b.Do(e); got != want {
		r.Errorf("Do(%v): %d, want %d", e, got, want)
	}
}

func (r *rig) tick(n int) {
	r.Helper()
	r.do(api.Event{K: api.EvTick, N: n}, api.OK)
}

func (r *rig) open(place int) {
	r.Helper()
	r.do(api.Event{K: api.EvOpen, Conn: place}, api.OK)
}

func (r *rig) close(place int) {
	r.Helper()
	r.do(api.Event{K: api.EvClose, Conn: place}, api.OK)
}

// bytes feeds a connection, and serves one packet.
func (r *rig) bytes(place int, s string, want api.Errno) {
	r.Helper()
	r.do(api.Event{K: api.EvBytes, Conn: place, Data: s}, api.OK)
	r.do(api.Event{K: api.EvServe, Conn: place}, want)
}

func (r *rig) send(place int, l ...api.Packet) {
	r.Helper()
	for _, p := range l {
		b, e := packet.Put(p)
		if e != api.OK {
			r.Fatalf("Put(%v): %d", p, e)
		}
		r.bytes(place, string(b), api.OK)
	}
}

// last tells the newest link of a place.
func (r *rig) last(place int) (int, api.Link) {
	r.Helper()
	l := r.b.Links()
	for i := len(l) - 1; i >= 0; i-- {
		if l[i].Conn == place {
			return i, l[i]
		}
	}
	r.Fatalf("no link at %d", place)
	return 0, api.Link{}
}

// out answers what went out since it was read last.
func (r *rig) out(place int) []api.Packet {
	r.Helper()
	i, l := r.last(place)
	fresh := l.Out[r.read[i]:]
	r.read[i] = len(l.Out)
	got, n, e := packet.All(fresh)
	if n != len(fresh) || e != api.OK {
		r.Errorf("what went out is not whole: %x", fresh)
	}
	return got
}

// want looks that just these packets went out since it was read last.
func (r *rig) want(place int, l ...api.Packet) {
	r.Helper()
	got := r.out(place)
	if len(got) != len(l) {
		r.Errorf("at %d went out %v, want %v", place, got, l)
		return
	}
	for i := range l {
		if !packet.Same(got[i], packet.Clean(l[i])) {
			r.Errorf("at %d went out %v, want %v", place, got[i], l[i])
		}
	}
}

func (r *rig) closed(place int, want bool) {
	r.Helper()
	if _, l := r.last(place); l.Closed != want {
		r.Errorf("at %d closed: %v", place, l.Closed)
	}
}

// come opens a connection on which a client comes.
func (r *rig) come(place int, x api.Connect, present bool, more ...api.Packet) {
	r.Helper()
	r.open(place)
	r.send(place, comes(x))
	r.want(place, append([]api.Packet{{Kind: api.PConnack, Present: present}}, more...)...)
}

// wish subscribes, and looks at the answer and what follows it.
func (r *rig) wish(place int, f api.Filter, more ...api.Packet) {
	r.Helper()
	r.send(place, api.Packet{Kind: api.PSubscribe, Id: 77, Filters: []api.Filter{f}})
	r.want(place, append([]api.Packet{{Kind: api.PSuback, Id: 77, Codes: []int{f.Qos}}}, more...)...)
}

func comes(x api.Connect) api.Packet { return api.Packet{Kind: api.PConnect, C: x} }

func named(client string, clean bool) api.Connect {
	return api.Connect{Level: 4, Client: client, Clean: clean}
}

func willed(client string, clean bool, m api.Msg) api.Connect {
	x := named(client, clean)
	x.HasWill, x.Will = true, m
	return x
}

func msg(topic, text string, qos int) api.Msg { return api.Msg{Topic: topic, Text: text, Qos: qos} }

func pub(id int, m api.Msg) api.Packet { return api.Packet{Kind: api.PPublish, Id: id, M: m} }

func id(kind, n int) api.Packet { return api.Packet{Kind: kind, Id: n} }

func filter(text string, qos int) api.Filter { return api.Filter{Text: text, Qos: qos} }

func same[T any](t *testing.T, what string, got, want T) {
	t.Helper()
	a, b := reflect.ValueOf(got), reflect.ValueOf(want)
	if a.Kind() == reflect.Slice && a.Len() == 0 && b.Len() == 0 {
		return
	}
	if !reflect.DeepEqual(got, want) {
		t.Errorf("%s: %v, want %v", what, got, want)
	}
}

func num(name string, n uint64) api.Metric {
	return api.Metric{Name: name, Type: 3, V: api.Value{K: api.VInt, N: n}}
}

// load is a payload's bytes with a number.
func load(seq int, l ...api.Metric) string {
	b, e := payload.Put(api.Payload{HasSeq: true, Seq: uint64(seq), Metrics: l})
	if e != api.OK {
		panic("payload " + strconv.Itoa(int(e)))
	}
	return string(b)
}

func spTopic(word, rest string) string { return "spBv1.0/g/" + word + "/" + rest }
