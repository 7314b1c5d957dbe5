package inbox

import (
	"math"
	"slices"
	"testing"

	"crier/api"
)

func TestCome(t *testing.T) {
	b := New()
	if b.Len() != 0 || len(b.All()) != 0 || b.Done(5) || b.Clear() != 0 {
		t.Error("nothing came into a new one")
	}
	for _, want := range []bool{true, false, false} {
		if fresh, e := b.Come(5); fresh != want || e != api.OK {
			t.Errorf("Come(5): %v %d, want %v", fresh, e, want)
		}
	}
	if !b.Done(5) || b.Done(5) || b.Len() != 0 {
		t.Error("Done")
	}
	if fresh, e := b.Come(5); !fresh || e != api.OK {
		t.Errorf("Come again: %v %d", fresh, e)
	}
	for _, id := range []int{math.MinInt, -1, 0, 65536, math.MaxInt} {
		if fresh, e := b.Come(id); fresh || e != api.ErrArg || b.Done(id) {
			t.Errorf("Come(%d): %v %d", id, fresh, e)
		}
	}
	for _, id := range []int{1, 65535, 3} {
		b.Come(id)
	}
	if !slices.Equal(b.All(), []int{1, 3, 5, 65535}) || b.Len() != 4 {
		t.Errorf("All: %v", b.All())
	}
	b.All()[0] = 99
	if !slices.Equal(b.All(), []int{1, 3, 5, 65535}) {
		t.Error("what was answered is kept")
	}
	if b.Clear() != 4 || b.Clear() != 0 || b.Len() != 0 || len(b.All()) != 0 || b.Done(3) {
		t.Errorf("Clear: %v", b.All())
	}
}

func TestFull(t *testing.T) {
	b := New()
	var want []int
	for i := range api.MaxInbox {
		b.Come(1000 - 10*i)
		want = append(want, 1000-10*i)
	}
	slices.Sort(want)
	for _, id := range []int{1, 999, 65535} {
		if fresh, e := b.Come(id); fresh || e != api.ErrFull {
			t.Errorf("Come(%d) into a full one: %v %d", id, fresh, e)
		}
	}
	if fresh, e := b.Come(990); fresh || e != api.OK {
		t.Errorf("Come of one that is there: %v %d", fresh, e)
	}
	if _, e := b.Come(0); e != api.ErrArg {
		t.Errorf("Come(0) into a full one: %d", e)
	}
	if !slices.Equal(b.All(), want) || b.Len() != api.MaxInbox {
		t.Errorf("All: %v", b.All())
	}
	b.Done(990)
	if fresh, e := b.Come(1); !fresh || e != api.OK {
		t.Errorf("room again: %v %d", fresh, e)
	}
}

func TestNone(t *testing.T) {
	for _, b := range []*Inbox{nil, {}, new(Inbox)} {
		for _, id := range []int{0, 1} {
			if fresh, e := b.Come(id); fresh || e != api.ErrZero {
				t.Errorf("Come: %v %d", fresh, e)
			}
		}
		if b.Done(1) || len(b.All()) != 0 || b.Len() != 0 || b.Clear() != 0 {
			t.Error("of none: false, none, 0")
		}
	}
}

// TestPlain holds an inbox against a plain list.
func TestPlain(t *testing.T) {
	b := New()
	var l []int
	seed := uint32(11)
	for range 5000 {
		seed = seed*1664525 + 1013904223
		id := 1 + int(seed>>8)%24
		at, there := slices.BinarySearch(l, id)
		if seed>>30 == 0 {
			if b.Done(id) != there {
				t.Fatal("Done")
			}
			if there {
				l = slices.Delete(l, at, at+1)
			}
		} else {
			want := api.OK
			if !there && len(l) == api.MaxInbox {
				want = api.ErrFull
			}
			fresh, e := b.Come(id)
			if e != want || fresh != (!there && e == api.OK) {
				t.Fatalf("Come(%d): %v %d, want %d", id, fresh, e, want)
			}
			if fresh {
				l = slices.Insert(l, at, id)
			}
		}
		if !slices.Equal(b.All(), l) || b.Len() != len(l) {
			t.Fatalf("%v, want %v", b.All(), l)
		}
	}
}
