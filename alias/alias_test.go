package alias

import (
	"math"
	"slices"
	"strconv"
	"testing"

	"crier/api"
)

func item(name string, alias uint64) api.Item {
	return api.Item{Name: name, HasAlias: true, Alias: alias}
}

// row are items with the aliases from one number on, below another.
func row(from, to int) []api.Item {
	var l []api.Item
	for i := from; i < to; i++ {
		l = append(l, item("n"+strconv.Itoa(i), uint64(i)))
	}
	return l
}

func set(t *testing.T, x *Table, owner string, want api.Errno, l ...api.Item) {
	t.Helper()
	before := x.All()
	if e := x.Try(owner, l); e != want {
		t.Errorf("Try: %d, want %d", e, want)
	}
	if !slices.Equal(x.All(), before) {
		t.Errorf("Try changes nothing: %v", x.All())
	}
	if e := x.Set(owner, l); e != want {
		t.Errorf("Set: %d, want %d", e, want)
	}
	if want != api.OK && !slices.Equal(x.All(), before) {
		t.Errorf("what is refused changes nothing: %v", x.All())
	}
}

func find(t *testing.T, x *Table, owner string, alias uint64, name string, ok bool) {
	t.Helper()
	if got, there := x.Find(owner, alias); got != name || there != ok {
		t.Errorf("Find(%q, %d): %q %v, want %q %v", owner, alias, got, there, name, ok)
	}
}

func TestSet(t *testing.T) {
	x := New()
	if x.Len() != 0 || len(x.All()) != 0 || x.Drop("") != 0 || x.Clear() != 0 {
		t.Error("a new one has no aliases")
	}
	set(t, x, "", api.OK, item("x", 1), api.Item{Name: "y"}, api.Item{Name: "z", Alias: 9}, item("w", math.MaxUint64), item("", 0))
	find(t, x, "", 1, "x", true)
	find(t, x, "", 0, "", true)
	find(t, x, "", 9, "", false)
	find(t, x, "d", 1, "", false)
	if !slices.Equal(x.All(), []uint64{0, 1, math.MaxUint64}) || x.Len() != 3 {
		t.Errorf("All: %v", x.All())
	}
	set(t, x, "d", api.ErrUsed, item("q", 5), item("q", 1))
	set(t, x, "d", api.ErrUsed, item("q", 5), item("r", 5))
	set(t, x, "d", api.ErrUsed, item("q", 5), item("q", 5))
	set(t, x, "", api.ErrUsed, item("q", 7), item("r", 7))
	set(t, x, "d", api.OK, item("q", 5), item("q", 6))
	set(t, x, "", api.ErrUsed, item("x", 5))
	set(t, x, "", api.OK, item("v", 1), item("u", 2)) // its own so far play no part
	find(t, x, "", 1, "v", true)
	find(t, x, "", 0, "", false)
	find(t, x, "d", 6, "q", true)
	if !slices.Equal(x.All(), []uint64{1, 2, 5, 6}) {
		t.Errorf("All: %v", x.All())
	}
	x.All()[0] = 99
	if x.All()[0] != 1 {
		t.Error("what was answered is kept")
	}
	if x.Drop("d") != 2 || x.Drop("d") != 0 || x.Drop("e") != 0 || x.Len() != 2 {
		t.Errorf("Drop: %v", x.All())
	}
	set(t, x, "", api.OK)
	if x.Len() != 0 {
		t.Errorf("just these aliases, none: %v", x.All())
	}
	set(t, x, "a", api.OK, row(0, 3)...)
	set(t, x, "b", api.OK, row(3, 5)...)
	if x.Clear() != 5 || x.Clear() != 0 || x.Len() != 0 {
		t.Errorf("Clear: %v", x.All())
	}
	set(t, x, "b", api.OK, row(0, 3)...)
}

func TestFull(t *testing.T) {
	x := New()
	set(t, x, "", api.ErrFull, row(0, 65)...)
	set(t, x, "", api.OK, row(0, 40)...)
	set(t, x, "d", api.ErrFull, row(40, 65)...)
	set(t, x, "d", api.ErrUsed, append(row(40, 65), item("z", 39))...)
	set(t, x, "d", api.ErrUsed, append(row(40, 65), item("z", 41))...)
	set(t, x, "d", api.OK, append(row(40, 64), make([]api.Item, 100)...)...)
	set(t, x, "e", api.ErrFull, item("z", 64))
	set(t, x, "e", api.OK)
	set(t, x, "d", api.OK, row(140, 164)...)
	set(t, x, "", api.ErrFull, row(0, 41)...)
	set(t, x, "", api.OK, row(0, 40)...)
	if x.Len() != api.MaxAliases {
		t.Errorf("Len: %d", x.Len())
	}
}

func TestNone(t *testing.T) {
	for _, x := range []*Table{nil, {}, new(Table)} {
		if x.Set("", nil) != api.ErrZero || x.Try("", []api.Item{item("a", 1), item("b", 1)}) != api.ErrZero {
			t.Error("Set, Try")
		}
		name, ok := x.Find("", 1)
		if name != "" || ok || x.Drop("") != 0 || x.Clear() != 0 || len(x.All()) != 0 || x.Len() != 0 {
			t.Error("of none: empty, false, none, 0")
		}
	}
}
