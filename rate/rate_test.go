package rate

import (
	"math"
	"slices"
	"strconv"
	"testing"

	"crier/api"
)

func fresh(t *testing.T, gap int) *Rate {
	t.Helper()
	r, e := New(gap)
	if e != api.OK {
		t.Fatalf("New(%d): %d", gap, e)
	}
	return r
}

func ask(t *testing.T, r *Rate, key string, now int, want bool) {
	t.Helper()
	last, had := r.Last(key)
	if may := r.May(key, now); may != want {
		t.Errorf("May(%q, %d): %v", key, now, may)
	}
	if l, h := r.Last(key); l != last || h != had {
		t.Errorf("May changes nothing: %d %v", l, h)
	}
	if got := r.Ask(key, now); got != want {
		t.Errorf("Ask(%q, %d): %v", key, now, got)
	}
	if want {
		last, had = now, true
	}
	if l, h := r.Last(key); l != last || h != had {
		t.Errorf("Last(%q): %d %v, want %d %v", key, l, h, last, had)
	}
}

func TestNew(t *testing.T) {
	for gap, want := range map[int]api.Errno{math.MinInt: api.ErrArg, -1: api.ErrArg, 0: api.OK, api.MaxClock: api.OK, api.MaxClock + 1: api.ErrArg, math.MaxInt: api.ErrArg} {
		r, e := New(gap)
		if e != want || (r == nil) != (e != api.OK) {
			t.Errorf("New(%d): %v %d", gap, r, e)
		}
	}
	r := fresh(t, 10)
	if r.Len() != 0 || len(r.Keys()) != 0 {
		t.Error("nobody asked of a new one")
	}
}

func TestAsk(t *testing.T) {
	r := fresh(t, 10)
	ask(t, r, "a", 5, true)
	ask(t, r, "a", 5, false)
	ask(t, r, "a", 14, false)
	ask(t, r, "a", 15, true)
	ask(t, r, "a", 24, false)
	ask(t, r, "a", 3, false)
	ask(t, r, "b", 3, true)
	ask(t, r, "", 0, true)
	for _, now := range []int{math.MinInt, -1, api.MaxClock + 1, math.MaxInt} {
		ask(t, r, "a", now, false)
		ask(t, r, "new", now, false)
	}
	ask(t, r, "a", api.MaxClock, true)
	if !slices.Equal(r.Keys(), []string{"", "a", "b"}) || r.Len() != 3 {
		t.Errorf("Keys: %q", r.Keys())
	}
	r.Keys()[0] = "changed"
	if r.Keys()[0] != "" {
		t.Error("what was answered is kept")
	}
	zero := fresh(t, 0)
	ask(t, zero, "a", 5, true)
	ask(t, zero, "a", 5, true)
	ask(t, zero, "a", 4, false)
	far := fresh(t, api.MaxClock)
	ask(t, far, "a", 0, true)
	ask(t, far, "a", api.MaxClock-1, false)
	ask(t, far, "a", api.MaxClock, true)
}

func TestFull(t *testing.T) {
	r := fresh(t, 1)
	for i := range api.MaxNodes {
		ask(t, r, "k"+strconv.Itoa(i), 100-i, true)
	}
	ask(t, r, "more", 1000, false)
	for i := range api.MaxNodes {
		ask(t, r, "k"+strconv.Itoa(i), 200-i, true)
	}
	if r.Len() != api.MaxNodes || !slices.IsSorted(r.Keys()) {
		t.Errorf("Keys: %q", r.Keys())
	}
}

func TestNone(t *testing.T) {
	for _, r := range []*Rate{nil, {}, new(Rate)} {
		last, ok := r.Last("a")
		if r.May("a", 0) || r.Ask("a", 0) || last != 0 || ok || len(r.Keys()) != 0 || r.Len() != 0 {
			t.Error("of none: false, 0, none")
		}
	}
}

// TestApart holds grants against a plain table.
func TestApart(t *testing.T) {
	r := fresh(t, 7)
	last := map[string]int{}
	now := 0
	seed := uint32(19)
	for range 5000 {
		seed = seed*1664525 + 1013904223
		now += int(seed>>16) % 3
		key := "k" + strconv.Itoa(int(seed>>8)%(api.MaxNodes+2))
		was, had := last[key]
		want := had && now-was >= 7 || !had && len(last) < api.MaxNodes
		ask(t, r, key, now, want)
		if want {
			last[key] = now
		}
	}
	for key, want := range last {
		if got, ok := r.Last(key); got != want || !ok {
			t.Errorf("Last(%q): %d, want %d", key, got, want)
		}
	}
}
