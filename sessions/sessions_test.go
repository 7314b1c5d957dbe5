package sessions

import (
	"math"
	"slices"
	"strconv"
	"strings"
	"testing"

	"crier/api"
)

func open(t *testing.T, x *Sessions, client string, clean bool, slot int, goesOn bool) {
	t.Helper()
	if s, on, e := x.Open(client, clean); s != slot || on != goesOn || e != api.OK {
		t.Errorf("Open(%q, %v): %d %v %d, want %d %v", client, clean, s, on, e, slot, goesOn)
	}
	if s := x.At(slot); s.Client() != client || s.Clean() != clean {
		t.Errorf("At(%d): %q %v", slot, s.Client(), s.Clean())
	}
}

func TestOpen(t *testing.T) {
	x := New()
	if x.Len() != 0 || len(x.All()) != 0 || x.At(0) != nil || x.Drop(0) {
		t.Error("no slot is taken of a new one")
	}
	for _, client := range []string{"", "\x00", "\xff", strings.Repeat("x", 33)} {
		if s, on, e := x.Open(client, true); s != 0 || on || e != api.ErrArg || x.Len() != 0 {
			t.Errorf("Open(%q): %d %v %d", client, s, on, e)
		}
	}
	open(t, x, "a", false, 0, false)
	first := x.At(0)
	first.Come(5)
	open(t, x, "a", false, 0, true)
	if x.At(0) != first {
		t.Error("a session that goes on is the same")
	}
	open(t, x, "b", true, 1, false)
	second := x.At(1)
	open(t, x, "b", false, 1, false) // a clean one never goes on
	if x.At(1) == second {
		t.Error("a new one takes its slot")
	}
	open(t, x, "a", true, 0, false)
	if x.At(0) == first || len(x.At(0).Inbox()) != 0 {
		t.Error("a clean one begins anew")
	}
	open(t, x, "a", true, 0, false)
	open(t, x, "a", false, 0, false)
	open(t, x, "a", false, 0, true)
	if !slices.Equal(x.All(), []int{0, 1}) || x.Len() != 2 {
		t.Errorf("All: %v", x.All())
	}
}

func TestFullAndDrop(t *testing.T) {
	x := New()
	for i := range api.MaxSessions {
		open(t, x, "c"+strconv.Itoa(i), false, i, false)
	}
	if s, on, e := x.Open("more", false); s != 0 || on || e != api.ErrFull || x.Len() != api.MaxSessions {
		t.Errorf("one more: %d %v %d", s, on, e)
	}
	if _, _, e := x.Open("", false); e != api.ErrArg {
		t.Errorf("one that can't be: %d", e)
	}
	open(t, x, "c3", false, 3, true)
	open(t, x, "c3", true, 3, false)
	if !x.Drop(5) || x.Drop(5) || !x.Drop(2) || x.At(5) != nil || !slices.Equal(x.All(), []int{0, 1, 3, 4, 6, 7}) {
		t.Errorf("Drop: %v", x.All())
	}
	if slot, ok := x.Find("c5"); slot != 0 || ok {
		t.Errorf("Find of none: %d %v", slot, ok)
	}
	if slot, ok := x.Find("c6"); slot != 6 || !ok {
		t.Errorf("Find: %d %v", slot, ok)
	}
	open(t, x, "more", true, 2, false)
	open(t, x, "c5", false, 5, false)
	for _, slot := range []int{math.MinInt, -1, 8, math.MaxInt} {
		if x.At(slot) != nil || x.Drop(slot) {
			t.Errorf("of the slot %d", slot)
		}
	}
	if _, ok := x.Find(""); ok {
		t.Error("Find of nobody")
	}
	x.All()[0] = 9
	if x.All()[0] != 0 {
		t.Error("what was answered is kept")
	}
}

func TestNone(t *testing.T) {
	for _, x := range []*Sessions{nil, {}, new(Sessions)} {
		for _, client := range []string{"", "a"} {
			if s, on, e := x.Open(client, false); s != 0 || on || e != api.ErrZero {
				t.Errorf("Open: %d %v %d", s, on, e)
			}
		}
		slot, ok := x.Find("a")
		if x.At(0) != nil || slot != 0 || ok || x.Drop(0) || len(x.All()) != 0 || x.Len() != 0 {
			t.Error("of none: nil, false, none, 0")
		}
	}
}
