package flight

import (
	"math"
	"reflect"
	"strconv"
	"testing"

	"crier/api"
)

func msg(i, qos int) api.Msg {
	return api.Msg{Topic: "t" + strconv.Itoa(i), Text: "x", Qos: qos, Retain: i%2 == 0}
}

func send(t *testing.T, f *Flight, m api.Msg, want int) {
	t.Helper()
	if id, e := f.Send(m); id != want || e != api.OK {
		t.Errorf("Send(%v): %d %d, want %d", m, id, e, want)
	}
}

func states(f *Flight) map[int]int {
	all := map[int]int{}
	for _, s := range f.All() {
		all[s.Id] = s.State
	}
	return all
}

func TestSend(t *testing.T) {
	f := New()
	if f.Len() != 0 || len(f.All()) != 0 || len(f.Again()) != 0 {
		t.Error("nothing is on its way of a new one")
	}
	for _, qos := range []int{math.MinInt, -1, 0, 3, math.MaxInt} {
		if id, e := f.Send(msg(1, qos)); id != 0 || e != api.ErrFlags || f.Len() != 0 {
			t.Errorf("Send of Qos %d: %d %d", qos, id, e)
		}
	}
	var want []api.Sent
	for i := 1; i <= api.MaxFlight; i++ {
		m := msg(i, 1+i%2)
		send(t, f, m, i)
		want = append(want, api.Sent{Id: i, State: []int{api.FAck, api.FRec}[i%2], M: m})
	}
	if !reflect.DeepEqual(f.All(), want) || f.Len() != api.MaxFlight {
		t.Errorf("All: %v", f.All())
	}
	if id, e := f.Send(msg(9, 1)); id != 0 || e != api.ErrFull || f.Len() != api.MaxFlight {
		t.Errorf("Send of one more: %d %d", id, e)
	}
	if _, e := f.Send(msg(9, 0)); e != api.ErrFlags {
		t.Errorf("Send of one more of Qos 0: %d", e)
	}
	f.All()[0].Id = 99
	if !reflect.DeepEqual(f.All(), want) {
		t.Error("what was answered is kept")
	}
}

func TestSteps(t *testing.T) {
	f := New()
	send(t, f, msg(1, 1), 1)
	send(t, f, msg(2, 2), 2)
	if f.Rec(1) || f.Comp(1) || f.Ack(2) || f.Comp(2) || f.Ack(3) || f.Rec(0) || f.Comp(-1) || !reflect.DeepEqual(states(f), map[int]int{1: api.FAck, 2: api.FRec}) {
		t.Errorf("what is no answer changes nothing: %v", f.All())
	}
	if !f.Rec(2) || !f.Rec(2) || f.Ack(2) || !reflect.DeepEqual(states(f), map[int]int{1: api.FAck, 2: api.FComp}) {
		t.Errorf("Rec: %v", f.All())
	}
	if !f.Comp(2) || f.Comp(2) || f.Rec(2) || f.Len() != 1 {
		t.Errorf("Comp: %v", f.All())
	}
	if !f.Ack(1) || f.Ack(1) || f.Len() != 0 || len(f.Again()) != 0 {
		t.Errorf("Ack: %v", f.All())
	}
}

func TestOrder(t *testing.T) {
	f := New()
	for i := 1; i <= 4; i++ {
		send(t, f, msg(i, 1), i)
	}
	f.Ack(3)
	f.Ack(1)
	send(t, f, msg(5, 2), 1)
	send(t, f, msg(6, 2), 3)
	f.Rec(3)
	want := []api.Packet{
		{Kind: api.PPublish, Id: 2, Dup: true, M: msg(2, 1)}, {Kind: api.PPublish, Id: 4, Dup: true, M: msg(4, 1)},
		{Kind: api.PPublish, Id: 1, Dup: true, M: msg(5, 2)}, {Kind: api.PPubrel, Id: 3},
	}
	if got := f.Again(); !reflect.DeepEqual(got, want) {
		t.Errorf("Again: %v", got)
	}
	if got := f.Again(); !reflect.DeepEqual(got, want) || f.Len() != 4 {
		t.Errorf("Again, once more: %v", got)
	}
	if got := f.All(); got[3] != (api.Sent{Id: 3, State: api.FComp, M: msg(6, 2)}) {
		t.Errorf("All: %v", got)
	}
}

func TestNone(t *testing.T) {
	for _, f := range []*Flight{nil, {}, new(Flight)} {
		for qos := range 3 {
			if id, e := f.Send(msg(1, qos)); id != 0 || e != api.ErrZero {
				t.Errorf("Send: %d %d", id, e)
			}
		}
		if f.Ack(1) || f.Rec(1) || f.Comp(1) || len(f.All()) != 0 || len(f.Again()) != 0 || f.Len() != 0 {
			t.Error("of none: false, none, 0")
		}
	}
}

// TestPlain holds a flight against a plain list of what is on its way.
func TestPlain(t *testing.T) {
	f := New()
	var l []api.Sent
	seed := uint32(5)
	for n := range 5000 {
		seed = seed*1664525 + 1013904223
		id := int(seed>>8) % (api.MaxFlight + 2)
		at := -1
		for i, s := range l {
			if s.Id == id {
				at = i
			}
		}
		state := 0
		if at >= 0 {
			state = l[at].State
		}
		var got, want, gone bool
		switch seed >> 30 {
		case 0:
			want, gone, got = state == api.FAck, true, f.Ack(id)
		case 1:
			want, got = state == api.FRec || state == api.FComp, f.Rec(id)
			if want {
				l[at].State = api.FComp
			}
		case 2:
			want, gone, got = state == api.FComp, true, f.Comp(id)
		default:
			m := msg(n, 1+n%2)
			id, e := f.Send(m)
			if want, got = len(l) < api.MaxFlight, e == api.OK; want {
				for _, s := range l {
					if s.Id == id {
						t.Fatalf("two have the number %d", id)
					}
				}
				l = append(l, api.Sent{Id: id, State: 1 + n%2, M: m})
			}
		}
		if got != want {
			t.Fatalf("step %d: %v, want %v", n, got, want)
		}
		if want && gone {
			l = append(append([]api.Sent{}, l[:at]...), l[at+1:]...)
		}
		if all := f.All(); len(all) != len(l) || len(l) > 0 && !reflect.DeepEqual(all, l) {
			t.Fatalf("step %d: %v, want %v", n, all, l)
		}
	}
}
