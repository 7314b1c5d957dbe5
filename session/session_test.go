package session

import (
	"math"
	"reflect"
	"slices"
	"strconv"
	"strings"
	"testing"

	"crier/api"
)

func fresh(t *testing.T, clean bool) *Session {
	t.Helper()
	s, e := New("c", clean)
	if e != api.OK {
		t.Fatalf("New: %d", e)
	}
	return s
}

func msg(i, qos int) api.Msg {
	return api.Msg{Topic: "t" + strconv.Itoa(i), Text: "x", Qos: qos, Retain: i%2 == 0}
}

func pub(id int, m api.Msg, dup bool) api.Packet {
	return api.Packet{Kind: api.PPublish, Id: id, M: m, Dup: dup}
}

func same(a, b []api.Packet) bool { return len(a) == 0 && len(b) == 0 || reflect.DeepEqual(a, b) }

func deliver(t *testing.T, s *Session, m api.Msg, qos int, ok bool, want ...api.Packet) {
	t.Helper()
	if l, kept := s.Deliver(m, qos); !same(l, want) || kept != ok {
		t.Errorf("Deliver(%v, %d): %v %v, want %v %v", m, qos, l, kept, want, ok)
	}
}

func TestNew(t *testing.T) {
	for client, want := range map[string]api.Errno{"": api.ErrArg, "\x00": api.ErrArg, "a\xff": api.ErrArg, strings.Repeat("x", 33): api.ErrArg, strings.Repeat("x", 32): api.OK, "\u00e9 /#": api.OK} {
		s, e := New(client, true)
		if e != want || (s == nil) != (e != api.OK) {
			t.Errorf("New(%q): %v %d", client, s, e)
		}
		if s != nil && s.Client() != client {
			t.Errorf("Client: %q", s.Client())
		}
	}
	for _, clean := range []bool{false, true} {
		s := fresh(t, clean)
		if s.Clean() != clean || s.Online() || s.Detach() || len(s.Queue()) != 0 || len(s.Flight()) != 0 || len(s.Inbox()) != 0 || s.Lost() != 0 {
			t.Error("nothing is in a new one, and it is not online")
		}
		if len(s.Attach()) != 0 || !s.Online() || !s.Detach() || s.Online() || s.Detach() {
			t.Error("Attach, Detach")
		}
	}
}

func TestOfflineWaits(t *testing.T) {
	s := fresh(t, false)
	deliver(t, s, msg(1, 1), 2, true)
	deliver(t, s, msg(2, 2), 2, true)
	deliver(t, s, msg(3, 0), 2, false)
	deliver(t, s, msg(3, 2), 0, false)
	if got := s.Queue(); !slices.Equal(got, []api.Msg{msg(1, 1), msg(2, 2)}) || s.Lost() != 0 {
		t.Errorf("Queue: %v", got)
	}
	if l := s.Attach(); !same(l, []api.Packet{pub(1, msg(1, 1), false), pub(2, msg(2, 2), false)}) {
		t.Errorf("Attach: %v", l)
	}
	if l := s.Attach(); !same(l, []api.Packet{pub(1, msg(1, 1), true), pub(2, msg(2, 2), true)}) || len(s.Queue()) != 0 {
		t.Errorf("Attach, online already: %v", l)
	}
	s.Answer(api.PPubrec, 2)
	s.Detach()
	deliver(t, s, msg(4, 1), 1, true)
	if l := s.Attach(); !same(l, []api.Packet{pub(1, msg(1, 1), true), {Kind: api.PPubrel, Id: 2}, pub(3, msg(4, 1), false)}) {
		t.Errorf("Attach: what is sent again, then what fills it up: %v", l)
	}
}

func TestDeliverQos(t *testing.T) {
	for _, x := range []struct{ m, qos, want int }{
		{0, 0, 0}, {0, 2, 0}, {1, 0, 0}, {2, 0, 0}, {1, 1, 1}, {1, 2, 1}, {2, 1, 1}, {2, 2, 2}, {-1, 2, 0}, {2, -5, 0}, {9, 9, 2}, {2, 9, 2}, {9, 1, 1}, {math.MinInt, math.MaxInt, 0}, {math.MaxInt, math.MaxInt, 2},
	} {
		s := fresh(t, true)
		s.Attach()
		id := min(x.want, 1)
		want := msg(7, x.want)
		deliver(t, s, msg(7, x.m), x.qos, true, pub(id, want, false))
	}
}

func TestFillAndLose(t *testing.T) {
	s := fresh(t, false)
	s.Attach()
	for i := range api.MaxFlight {
		deliver(t, s, msg(i, 1+i%2), 2, true, pub(i+1, msg(i, 1+i%2), false))
	}
	for i := range api.MaxQueue {
		deliver(t, s, msg(100+i, 1), 2, true)
	}
	deliver(t, s, msg(200, 1), 2, false)
	deliver(t, s, msg(201, 2), 2, false)
	deliver(t, s, msg(202, 0), 2, true, pub(0, msg(202, 0), false))
	if s.Lost() != 2 || len(s.Queue()) != api.MaxQueue || len(s.Flight()) != api.MaxFlight {
		t.Errorf("%d lost, %d wait", s.Lost(), len(s.Queue()))
	}
	if l := s.Answer(api.PPuback, 3); !same(l, []api.Packet{pub(3, msg(100, 1), false)}) {
		t.Errorf("PPuback: %v", l)
	}
	if l := s.Answer(api.PPubrec, 2); !same(l, []api.Packet{{Kind: api.PPubrel, Id: 2}}) {
		t.Errorf("PPubrec: %v", l)
	}
	if l := s.Answer(api.PPubcomp, 2); !same(l, []api.Packet{pub(2, msg(101, 1), false)}) {
		t.Errorf("PPubcomp: %v", l)
	}
	deliver(t, s, msg(203, 1), 1, true)
	for _, x := range [][2]int{{api.PPubcomp, 4}, {api.PPuback, 4}, {api.PPubrec, 1}, {api.PPuback, 99}, {api.PPubrel, 1}, {api.PPublish, 1}, {0, 1}, {math.MinInt, 1}, {api.PPuback, math.MinInt}} {
		if l := s.Answer(x[0], x[1]); len(l) != 0 {
			t.Errorf("Answer%v: %v", x, l)
		}
	}
	s.Detach()
	if l := s.Answer(api.PPuback, 1); len(l) != 0 || len(s.Flight()) != api.MaxFlight {
		t.Errorf("Answer, not online: %v", l)
	}
}

func TestInbox(t *testing.T) {
	s := fresh(t, false)
	for _, want := range []bool{true, false} {
		if fresh, e := s.Come(5); fresh != want || e != api.OK {
			t.Errorf("Come: %v %d", fresh, e)
		}
	}
	if _, e := s.Come(0); e != api.ErrArg {
		t.Errorf("Come(0): %d", e)
	}
	for i := range api.MaxInbox - 1 {
		s.Come(100 + i)
	}
	if fresh, e := s.Come(99); fresh || e != api.ErrFull || len(s.Inbox()) != api.MaxInbox || s.Inbox()[0] != 5 {
		t.Errorf("Come into a full one: %v %d", fresh, e)
	}
	if !s.Done(5) || s.Done(5) || slices.Contains(s.Inbox(), 5) {
		t.Error("Done")
	}
}

func TestNone(t *testing.T) {
	for _, s := range []*Session{nil, {}, new(Session)} {
		if s.Client() != "" || s.Clean() || s.Online() || len(s.Attach()) != 0 || s.Online() || s.Detach() || len(s.Answer(api.PPuback, 1)) != 0 {
			t.Error("of none: empty, false, none")
		}
		for qos := range 3 {
			if l, ok := s.Deliver(msg(1, qos), 2); len(l) != 0 || ok {
				t.Errorf("Deliver: %v %v", l, ok)
			}
		}
		if fresh, e := s.Come(0); fresh || e != api.ErrZero {
			t.Errorf("Come: %v %d", fresh, e)
		}
		if s.Done(1) || len(s.Flight()) != 0 || len(s.Queue()) != 0 || len(s.Inbox()) != 0 || s.Lost() != 0 {
			t.Error("of none: false, none, 0")
		}
	}
}

// TestOnceInOrder: all that was not lost is sent once for the first time, in order, however the connection breaks.
func TestOnceInOrder(t *testing.T) {
	s := fresh(t, false)
	var kept, first []string
	again := map[int]api.Packet{}
	seed := uint32(9)
	see := func(l []api.Packet) {
		for _, p := range l {
			switch {
			case p.Kind == api.PPubrel:
			case p.Dup:
				if again[p.Id].M != p.M {
					t.Fatalf("%v is sent again with another number", p)
				}
			default:
				first = append(first, p.M.Topic)
				again[p.Id] = p
			}
		}
	}
	for n := range 4000 {
		seed = seed*1664525 + 1013904223
		switch seed >> 29 {
		case 0:
			s.Detach()
		case 1, 2:
			if !s.Online() {
				see(s.Attach())
			}
		case 3, 4:
			l, ok := s.Deliver(msg(n, 1+n%2), 2)
			if ok {
				kept = append(kept, msg(n, 0).Topic)
			}
			see(l)
		default:
			all := s.Flight()
			if len(all) == 0 {
				continue
			}
			x := all[int(seed>>8)%len(all)]
			see(s.Answer([]int{0, api.PPuback, api.PPubrec, api.PPubcomp}[x.State], x.Id))
		}
	}
	see(s.Attach())
	for len(s.Flight()) > 0 {
		x := s.Flight()[0]
		see(s.Answer([]int{0, api.PPuback, api.PPubrec, api.PPubcomp}[x.State], x.Id))
	}
	if !slices.Equal(kept, first) || len(first) < 100 {
		t.Errorf("%d kept, %d sent for the first time", len(kept), len(first))
	}
}
