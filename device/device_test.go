package device

import (
	"reflect"
	"testing"

	"crier/api"
)

func list(names ...string) []api.Item {
	var l []api.Item
	for _, n := range names {
		l = append(l, api.Item{Name: n})
	}
	return l
}

func see(t *testing.T, d *Device, online bool, lives int, l ...api.Item) {
	t.Helper()
	v := d.View()
	if v.Name != "d" || v.Online != online || d.Online() != online || d.Lives() != lives || len(v.Items) != len(l) || len(l) > 0 && !reflect.DeepEqual(v.Items, l) {
		t.Errorf("View: %v, %d lives, want %v %d %v", v, d.Lives(), online, lives, l)
	}
}

func TestLives(t *testing.T) {
	if d, e := New(""); d != nil || e != api.ErrArg {
		t.Errorf("New of no name: %v %d", d, e)
	}
	d, e := New("d")
	if e != api.OK {
		t.Fatalf("New: %d", e)
	}
	see(t, d, false, 0)
	if d.Told(list("a")) != api.ErrNone || d.Dies() != api.ErrNone {
		t.Error("Told, Dies ahead of a birth")
	}
	see(t, d, false, 0)
	if d.Born(list("a", "b")) != api.OK {
		t.Error("Born")
	}
	see(t, d, true, 1, list("a", "b")...)
	if d.Told(list("c")) != api.OK {
		t.Error("Told")
	}
	see(t, d, true, 1, list("c")...)
	if d.Dies() != api.OK || d.Dies() != api.ErrNone || d.Told(list("d")) != api.ErrNone {
		t.Error("Dies")
	}
	see(t, d, false, 1, list("c")...)
	d.Born(nil)
	see(t, d, true, 2)
	d.Born(list("e"))
	see(t, d, true, 3, list("e")...)
	d.Told(nil)
	see(t, d, true, 3)
}

func TestItsOwnLists(t *testing.T) {
	d, _ := New("d")
	for _, take := range []func([]api.Item) api.Errno{d.Born, d.Told} {
		l := list("a", "b")
		take(l)
		l[0].Name = "changed"
		v := d.View()
		v.Items[1].Name = "changed"
		see(t, d, true, 1, list("a", "b")...)
	}
	old := d.View()
	d.Told(list("z"))
	if old.Items[0].Name != "a" {
		t.Error("what was answered is changed behind it")
	}
}

func TestNone(t *testing.T) {
	for _, d := range []*Device{nil, {}, new(Device)} {
		if d.Born(nil) != api.ErrZero || d.Told(nil) != api.ErrZero || d.Dies() != api.ErrZero || d.Online() || d.Lives() != 0 || !reflect.DeepEqual(d.View(), api.DeviceView{}) {
			t.Error("of none: ErrZero; false, the zero view, 0")
		}
	}
}
