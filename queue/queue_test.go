package queue

import (
	"math"
	"slices"
	"strconv"
	"testing"

	"crier/api"
)

func msg(i int) api.Msg {
	return api.Msg{Topic: "t" + strconv.Itoa(i), Text: "x", Qos: i % 3, Retain: i%2 == 0}
}

// filled is a queue of so many at most, in which the messages from 0 on wait.
func filled(t *testing.T, most, n int) *Queue {
	t.Helper()
	q, e := New(most)
	if e != api.OK {
		t.Fatalf("New(%d): %d", most, e)
	}
	for i := range n {
		if !q.Put(msg(i)) {
			t.Fatalf("Put %d of %d", i, most)
		}
	}
	return q
}

func msgs(from, to int) []api.Msg {
	var l []api.Msg
	for i := from; i < to; i++ {
		l = append(l, msg(i))
	}
	return l
}

func TestNew(t *testing.T) {
	for most, want := range map[int]api.Errno{math.MinInt: api.ErrArg, -1: api.ErrArg, 0: api.ErrArg, 1: api.OK, 1000: api.OK, 1001: api.ErrArg, math.MaxInt: api.ErrArg} {
		q, e := New(most)
		if e != want || (q == nil) != (e != api.OK) {
			t.Errorf("New(%d): %v %d", most, q, e)
		}
	}
	q := filled(t, 2, 0)
	if m, ok := q.Take(); m != (api.Msg{}) || ok || q.Len() != 0 || q.Full() || len(q.All()) != 0 || q.Lost() != 0 || q.Clear() != 0 {
		t.Error("nothing waits in a new one")
	}
}

func TestPutTake(t *testing.T) {
	q := filled(t, 3, 3)
	if !q.Full() || q.Len() != 3 || !slices.Equal(q.All(), msgs(0, 3)) || !slices.Equal(q.All(), msgs(0, 3)) {
		t.Errorf("All: %v", q.All())
	}
	for range 2 {
		if q.Put(msg(9)) {
			t.Error("Put into a full one")
		}
	}
	if q.Lost() != 2 || q.Len() != 3 || !slices.Equal(q.All(), msgs(0, 3)) {
		t.Errorf("what is lost does not wait: %v, %d lost", q.All(), q.Lost())
	}
	if m, ok := q.Take(); m != msg(0) || !ok || q.Full() || q.Len() != 2 {
		t.Errorf("Take: %v %v", m, ok)
	}
	if !q.Put(msg(3)) || !slices.Equal(q.All(), msgs(1, 4)) {
		t.Errorf("All: %v", q.All())
	}
	for i := 1; i < 4; i++ {
		if m, ok := q.Take(); m != msg(i) || !ok {
			t.Errorf("Take: %v %v", m, ok)
		}
	}
	if m, ok := q.Take(); m != (api.Msg{}) || ok {
		t.Errorf("Take of none: %v %v", m, ok)
	}
	q = filled(t, 3, 2)
	if q.Clear() != 2 || q.Len() != 0 || q.Lost() != 0 || q.Clear() != 0 || !q.Put(msg(5)) || !slices.Equal(q.All(), msgs(5, 6)) {
		t.Errorf("Clear: %v, %d lost", q.All(), q.Lost())
	}
}

func TestMove(t *testing.T) {
	for _, x := range []struct{ to, from, moved int }{{0, 0, 0}, {0, 2, 2}, {3, 2, 2}, {4, 3, 1}, {5, 3, 0}, {0, 5, 5}, {2, 4, 3}} {
		to, from := filled(t, 5, x.to), filled(t, 7, x.from)
		if n := Move(to, from); n != x.moved || to.Lost() != 0 || from.Lost() != 0 {
			t.Errorf("Move: %d, want %d", n, x.moved)
		}
		if !slices.Equal(to.All(), append(msgs(0, x.to), msgs(0, x.moved)...)) || !slices.Equal(from.All(), msgs(x.moved, x.from)) {
			t.Errorf("Move: %v, %v", to.All(), from.All())
		}
	}
	q := filled(t, 3, 2)
	if Move(q, q) != 0 || !slices.Equal(q.All(), msgs(0, 2)) {
		t.Errorf("Move of one: %v", q.All())
	}
	for _, none := range []*Queue{nil, {}} {
		if Move(q, none) != 0 || Move(none, q) != 0 || Move(none, none) != 0 || q.Len() != 2 {
			t.Error("Move of none")
		}
	}
}

func TestNone(t *testing.T) {
	for _, q := range []*Queue{nil, {}, new(Queue)} {
		if q.Put(msg(0)) {
			t.Error("Put")
		}
		if m, ok := q.Take(); m != (api.Msg{}) || ok || q.Len() != 0 || !q.Full() || len(q.All()) != 0 || q.Lost() != 0 || q.Clear() != 0 {
			t.Error("of none: false, 0, none; Full: true")
		}
	}
}

// TestAllIsTakenOrLost: all that was put waits, was taken in order, or was lost.
func TestAllIsTakenOrLost(t *testing.T) {
	q := filled(t, 4, 0)
	next, put, taken, lost := 0, 0, 0, 0
	var waits []api.Msg
	seed := uint32(3)
	for range 3000 {
		seed = seed*1664525 + 1013904223
		if seed>>31 == 0 {
			ok := q.Put(msg(next))
			if ok != (len(waits) < 4) {
				t.Fatal("Put")
			}
			if ok {
				waits = append(waits, msg(next))
			} else {
				lost++
			}
			next++
			put++
		} else if m, ok := q.Take(); ok != (len(waits) > 0) || ok && m != waits[0] {
			t.Fatalf("Take: %v %v", m, ok)
		} else if ok {
			waits = waits[1:]
			taken++
		}
		if !slices.Equal(q.All(), waits) || q.Lost() != lost || q.Len()+taken+q.Lost() != put {
			t.Fatalf("%v wait, want %v", q.All(), waits)
		}
	}
}
