package host

import (
	"slices"
	"testing"

	"crier/api"
)

func take(t *testing.T, h *Hosts, name, text string, want int) {
	t.Helper()
	before := h.All()
	if code := h.Take(name, text); code != want {
		t.Errorf("Take(%q, %q): %d, want %d", name, text, code, want)
	}
	if want != api.ROk && !slices.Equal(h.All(), before) {
		t.Errorf("what is refused changes nothing: %v", h.All())
	}
}

func see(t *testing.T, h *Hosts, name string, on, known bool) {
	t.Helper()
	if o, k := h.Online(name); o != on || k != known {
		t.Errorf("Online(%q): %v %v", name, o, k)
	}
}

func TestTake(t *testing.T) {
	h := New()
	see(t, h, "h", false, false)
	if h.Len() != 0 || len(h.All()) != 0 {
		t.Error("no host is known of a new one")
	}
	for _, text := range []string{"", "online", "ONLINE ", " ONLINE", "OFFLINE\n", "ON"} {
		take(t, h, "h", text, api.RDecode)
		take(t, h, "", text, api.RName)
	}
	take(t, h, "", "ONLINE", api.RName)
	take(t, h, "h", "ONLINE", api.ROk)
	see(t, h, "h", true, true)
	take(t, h, "h", "OFFLINE", api.ROk)
	see(t, h, "h", false, true)
	take(t, h, "a", "OFFLINE", api.ROk)
	see(t, h, "a", false, true)
	take(t, h, "z", "ONLINE", api.ROk)
	take(t, h, "a/b", "ONLINE", api.ROk)
	take(t, h, "q", "x", api.RDecode)
	take(t, h, "q", "ONLINE", api.RFull)
	take(t, h, "q", "OFFLINE", api.RFull)
	take(t, h, "h", "ONLINE", api.ROk)
	see(t, h, "q", false, false)
	want := []api.HostView{{Name: "a"}, {Name: "a/b", Online: true}, {Name: "h", Online: true}, {Name: "z", Online: true}}
	if !slices.Equal(h.All(), want) || h.Len() != api.MaxHosts {
		t.Errorf("All: %v", h.All())
	}
	h.All()[0].Name = "changed"
	if !slices.Equal(h.All(), want) {
		t.Error("what was answered is kept")
	}
}

func TestNone(t *testing.T) {
	for _, h := range []*Hosts{nil, {}, new(Hosts)} {
		if h.Take("h", "ONLINE") != api.RNothing || h.Take("", "") != api.RNothing || len(h.All()) != 0 || h.Len() != 0 {
			t.Error("of none: RNothing; none, 0")
		}
		see(t, h, "h", false, false)
	}
}
