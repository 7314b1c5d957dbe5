package ids

import (
	"math"
	"slices"
	"testing"

	"crier/api"
)

func fresh(t *testing.T, most int) *Ids {
	t.Helper()
	d, e := New(most)
	if e != api.OK {
		t.Fatalf("New(%d): %d", most, e)
	}
	return d
}

func take(t *testing.T, d *Ids, want int) {
	t.Helper()
	if id, e := d.Take(); id != want || e != api.OK {
		t.Errorf("Take: %d %d, want %d", id, e, want)
	}
}

func TestNew(t *testing.T) {
	for most, want := range map[int]api.Errno{math.MinInt: api.ErrArg, -1: api.ErrArg, 0: api.ErrArg, 1: api.OK, 65535: api.OK, 65536: api.ErrArg, math.MaxInt: api.ErrArg} {
		d, e := New(most)
		if e != want || (d == nil) != (e != api.OK) {
			t.Errorf("New(%d): %v %d", most, d, e)
		}
	}
	d := fresh(t, 3)
	if d.Len() != 0 || len(d.All()) != 0 || d.Has(1) {
		t.Error("all are free")
	}
}

func TestTakeGive(t *testing.T) {
	d := fresh(t, 3)
	take(t, d, 1)
	take(t, d, 2)
	if e := d.Give(1); e != api.OK || d.Has(1) || !d.Has(2) || d.Len() != 1 || !slices.Equal(d.All(), []int{2}) {
		t.Errorf("Give: %d, %v", e, d.All())
	}
	take(t, d, 1)
	take(t, d, 3)
	if id, e := d.Take(); id != 0 || e != api.ErrFull || d.Len() != 3 {
		t.Errorf("Take of none: %d %d", id, e)
	}
	for id, want := range map[int]api.Errno{0: api.ErrArg, -1: api.ErrArg, 4: api.ErrArg, math.MinInt: api.ErrArg, math.MaxInt: api.ErrArg} {
		if e := d.Give(id); e != want || d.Has(id) {
			t.Errorf("Give(%d): %d", id, e)
		}
	}
	for _, id := range []int{3, 1, 2} {
		if d.Give(id) != api.OK || d.Give(id) != api.ErrNone {
			t.Errorf("Give(%d) twice", id)
		}
	}
	if d.Len() != 0 || len(d.All()) != 0 {
		t.Error("all are free again")
	}
	take(t, d, 1)
	if e := d.Give(2); e != api.ErrNone {
		t.Errorf("Give of a free one: %d", e)
	}
	if e := fresh(t, 3).Give(3); e != api.ErrNone {
		t.Errorf("Give of one that was never taken: %d", e)
	}
	d.All()[0] = 9
	if !slices.Equal(d.All(), []int{1}) {
		t.Error("what was answered is kept")
	}
}

func TestNone(t *testing.T) {
	for _, d := range []*Ids{nil, {}, new(Ids)} {
		if id, e := d.Take(); id != 0 || e != api.ErrZero {
			t.Errorf("Take: %d %d", id, e)
		}
		if e := d.Give(-1); e != api.ErrZero {
			t.Errorf("Give: %d", e)
		}
		if d.Has(1) || len(d.All()) != 0 || d.Len() != 0 {
			t.Error("of none: false, none, 0")
		}
	}
}

// TestLeast holds what is taken against a plain list.
func TestLeast(t *testing.T) {
	const most = 20
	d := fresh(t, most)
	var has [most + 1]bool
	count := 0
	seed := uint32(7)
	for range 5000 {
		seed = seed*1664525 + 1013904223
		if seed>>31 == 0 {
			want := 1
			for want <= most && has[want] {
				want++
			}
			id, e := d.Take()
			if want > most && (id != 0 || e != api.ErrFull) || want <= most && (id != want || e != api.OK) {
				t.Fatalf("Take: %d %d, want %d", id, e, want)
			}
			if want <= most {
				has[want] = true
				count++
			}
			continue
		}
		id := 1 + int(seed>>8)%most
		want := api.ErrNone
		if has[id] {
			want = api.OK
			has[id] = false
			count--
		}
		if e := d.Give(id); e != want {
			t.Fatalf("Give(%d): %d, want %d", id, e, want)
		}
		if d.Len() != count || d.Has(id) {
			t.Fatalf("Len: %d, want %d", d.Len(), count)
		}
	}
	all := fresh(t, 65535)
	for i := range 65535 {
		if id, e := all.Take(); id != i+1 || e != api.OK {
			t.Fatalf("Take: %d %d", id, e)
		}
	}
	if _, e := all.Take(); e != api.ErrFull || len(all.All()) != 65535 {
		t.Errorf("Take of none: %d", e)
	}
}
