package edge

import (
	"reflect"
	"strconv"
	"testing"

	"crier/api"
	"crier/items"
)

func num(name string, n uint64) api.Metric {
	return api.Metric{Name: name, Type: 3, V: api.Value{K: api.VInt, N: n}}
}

func with(name string, alias uint64) api.Metric {
	m := num(name, 1)
	m.HasAlias, m.Alias = true, alias
	return m
}

func by(alias uint64, n uint64) api.Metric {
	return api.Metric{HasAlias: true, Alias: alias, V: api.Value{K: api.VInt, N: n}}
}

func load(seq int, l ...api.Metric) api.Payload {
	return api.Payload{HasSeq: true, Seq: uint64(seq), Metrics: l}
}

// birth is a birth of the life bd, with these metrics behind its number.
func birth(bd, seq int, l ...api.Metric) api.Payload {
	return load(seq, append([]api.Metric{num("bdSeq", uint64(bd))}, l...)...)
}

func death(bd int) api.Payload {
	return api.Payload{Metrics: []api.Metric{num("bdSeq", uint64(bd))}}
}

func fresh(t *testing.T) *Edge {
	t.Helper()
	n, e := New("g", "n")
	if e != api.OK {
		t.Fatalf("New: %d", e)
	}
	return n
}

// sameView compares all but the pending mark.
func sameView(a, b api.NodeView) bool {
	if a.Group != b.Group || a.Name != b.Name || a.Online != b.Online || a.Bd != b.Bd || a.Next != b.Next || !items.Same(a.Items, b.Items) || len(a.Devices) != len(b.Devices) {
		return false
	}
	for i, d := range a.Devices {
		if e := b.Devices[i]; d.Name != e.Name || d.Online != e.Online || !items.Same(d.Items, e.Items) {
			return false
		}
	}
	return true
}

// take takes, and looks that what is refused changes nothing but that the node is pending.
func take(t *testing.T, n *Edge, kind int, device string, p api.Payload, want int) {
	t.Helper()
	before, pending, aliases := n.View(), n.Pending(), n.Aliases()
	if code := n.Take(kind, device, p); code != want {
		t.Errorf("Take(%d, %q, %v): %d, want %d", kind, device, p, code, want)
	}
	if want == api.ROk {
		return
	}
	if !sameView(n.View(), before) || n.Aliases() != aliases || n.Pending() != (pending || want >= api.RDecode) {
		t.Errorf("code %d: %v, was %v", want, n.View(), before)
	}
}

func see(t *testing.T, n *Edge, online bool, bd, next int, pending bool, aliases int) {
	t.Helper()
	v := n.View()
	if v.Group != "g" || v.Name != "n" || v.Online != online || n.Online() != online || v.Bd != bd || v.Next != next || v.Pending != pending || n.Pending() != pending || n.Aliases() != aliases {
		t.Errorf("View: %v, %d aliases", v, n.Aliases())
	}
}

func TestNew(t *testing.T) {
	for _, x := range [][2]string{{"", ""}, {"g", ""}, {"", "n"}} {
		if n, e := New(x[0], x[1]); n != nil || e != api.ErrArg {
			t.Errorf("New%q: %v %d", x, n, e)
		}
	}
	n := fresh(t)
	see(t, n, false, 0, 0, false, 0)
	if n.Refuse() != api.RDecode {
		t.Error("Refuse")
	}
	see(t, n, false, 0, 0, true, 0)
	for _, kind := range []int{-1, api.SNone, api.SNCmd, api.SDCmd, api.SState, 10} {
		take(t, n, kind, "d", birth(1, 0), api.RNothing)
	}
}

func TestNodeBirth(t *testing.T) {
	n := fresh(t)
	null := num("bdSeq", 1)
	null.Null = true
	var many []api.Metric
	for i := range api.MaxItems {
		many = append(many, num("m"+strconv.Itoa(i), 0))
	}
	for _, x := range []struct {
		p    api.Payload
		code int
	}{
		{api.Payload{}, api.RBd}, {load(0, num("a", 1)), api.RBd}, {load(0, null), api.RBd}, {birth(256, 0), api.RBd}, {load(0, api.Metric{Name: "bdSeq", V: api.Value{K: api.VBool, N: 1}}), api.RBd},
		{death(1), api.RSeq}, {birth(1, 256, num("", 1)), api.RSeq}, {birth(1, 0, many...), api.RFull}, {birth(1, 0, num("", 1)), api.RName}, {birth(1, 0, num("a", 1), num("a", 1)), api.RClash}, {birth(1, 0, num("bdSeq", 1)), api.RClash},
		{birth(1, 0, with("a", 5), with("b", 5)), api.RClash},
	} {
		take(t, n, api.SNBirth, "", x.p, x.code)
	}
	see(t, n, false, 0, 0, true, 0)
	take(t, n, api.SNBirth, "ignored", birth(7, 254, with("a", 5), with("b", 6)), api.ROk)
	see(t, n, true, 7, 255, false, 2)
	if l := n.View().Items; len(l) != 3 || l[0].Name != "bdSeq" || l[1].Name != "a" || l[2].Alias != 6 {
		t.Errorf("Items: %v", l)
	}
	take(t, n, api.SDBirth, "d", load(255, with("x", 9)), api.ROk)
	see(t, n, true, 7, 0, false, 3)
	n.Refuse()
	take(t, n, api.SNBirth, "", birth(8, 3, with("c", 9)), api.ROk)
	see(t, n, true, 8, 4, false, 1)
	if v := n.View(); len(v.Devices) != 0 || len(v.Items) != 2 {
		t.Errorf("a birth begins anew: %v", v)
	}
}

func TestNodeDeath(t *testing.T) {
	n := fresh(t)
	take(t, n, api.SNDeath, "", api.Payload{}, api.RBd)
	take(t, n, api.SNDeath, "", death(1), api.RIgnored)
	take(t, n, api.SNBirth, "", birth(1, 0, with("a", 1)), api.ROk)
	take(t, n, api.SDBirth, "d", load(1, with("x", 2)), api.ROk)
	take(t, n, api.SNDeath, "", death(2), api.RIgnored)
	see(t, n, true, 1, 2, false, 2)
	take(t, n, api.SNDeath, "", load(2), api.RBd)
	see(t, n, true, 1, 2, true, 2)
	take(t, n, api.SNDeath, "", death(1), api.ROk)
	see(t, n, false, 0, 0, true, 0)
	v := n.View()
	if len(v.Items) != 2 || len(v.Devices) != 1 || v.Devices[0].Online || len(v.Devices[0].Items) != 1 {
		t.Errorf("a death leaves what it had: %v", v)
	}
	take(t, n, api.SNDeath, "", death(1), api.RIgnored)
	take(t, n, api.SNData, "", load(2), api.RBirth)
	take(t, n, api.SDBirth, "d", load(2), api.RBirth)
	take(t, n, api.SDData, "d", load(2), api.RBirth)
	take(t, n, api.SDDeath, "d", load(2), api.RBirth)
}

func TestNodeData(t *testing.T) {
	n := fresh(t)
	take(t, n, api.SNData, "", load(0), api.RBirth)
	see(t, n, false, 0, 0, true, 0)
	take(t, n, api.SNBirth, "", birth(1, 255, with("a", 5), num("b", 2)), api.ROk)
	take(t, n, api.SDBirth, "d", load(0, with("x", 9)), api.ROk)
	for _, x := range []struct {
		p    api.Payload
		code int
	}{
		{api.Payload{Metrics: []api.Metric{num("a", 9)}}, api.RSeq}, {load(0, num("q", 1)), api.RSeq}, {load(2), api.RSeq}, {load(257), api.RSeq}, {load(1, by(9, 1)), api.RAlias}, {load(1, num("a", 9), by(77, 1)), api.RAlias}, {load(1, num("a", 9), num("q", 1)), api.RName}, {load(1, num("", 1)), api.RName}, {load(1, num("x", 1)), api.RName},
	} {
		take(t, n, api.SNData, "", x.p, x.code)
	}
	see(t, n, true, 1, 1, true, 2)
	take(t, n, api.SNData, "ignored", load(1, by(5, 40), num("b", 41), num("b", 42)), api.ROk)
	see(t, n, true, 1, 2, true, 2)
	if l := n.View().Items; l[1].V.N != 40 || l[2].V.N != 42 || l[0].V.N != 1 {
		t.Errorf("Items: %v", l)
	}
	for seq := 2; seq < 600; seq++ {
		take(t, n, api.SNData, "", load(seq%256), api.ROk)
	}
}

func TestDeviceBirth(t *testing.T) {
	n := fresh(t)
	take(t, n, api.SDBirth, "d", load(0), api.RBirth)
	take(t, n, api.SNBirth, "", birth(1, 0, with("a", 5)), api.ROk)
	take(t, n, api.SDBirth, "", load(0), api.RSeq)
	take(t, n, api.SDBirth, "", load(1, num("x", 1)), api.RName)
	take(t, n, api.SDBirth, "", load(1, num("x", 1), num("x", 2)), api.RName)
	take(t, n, api.SDBirth, "d", load(1, num("", 1)), api.RName)
	take(t, n, api.SDBirth, "d", load(1, num("x", 1), num("x", 2), with("y", 5)), api.RClash)
	take(t, n, api.SDBirth, "d", load(1, with("x", 5)), api.RClash)
	take(t, n, api.SDBirth, "d", load(1, with("x", 6), with("y", 6)), api.RClash)
	if v := n.View(); len(v.Devices) != 0 {
		t.Errorf("Devices: %v", v)
	}
	for i, name := range []string{"m", "z", "a", "k"} {
		take(t, n, api.SDBirth, name, load(i+1, with("x", uint64(10+i))), api.ROk)
	}
	see(t, n, true, 1, 5, true, 5)
	take(t, n, api.SDBirth, "", load(5, num("x", 1)), api.RName)
	take(t, n, api.SDBirth, "b", load(5, num("", 1)), api.RFull)
	take(t, n, api.SDBirth, "k", load(5, with("x", 10)), api.RClash)
	take(t, n, api.SDBirth, "k", load(5, with("y", 13), with("z", 14)), api.ROk)
	see(t, n, true, 1, 6, true, 6)
	v := n.View()
	for i, name := range []string{"a", "k", "m", "z"} {
		if v.Devices[i].Name != name || !v.Devices[i].Online {
			t.Errorf("Devices: %v", v.Devices)
		}
	}
	if l := v.Devices[1].Items; len(l) != 2 || l[0].Name != "y" {
		t.Errorf("born anew: %v", l)
	}
	take(t, n, api.SDDeath, "a", load(6), api.ROk)
	take(t, n, api.SDBirth, "b", load(7), api.RFull)
	take(t, n, api.SDBirth, "a", load(7), api.ROk)
}

func TestAliasesFull(t *testing.T) {
	n := fresh(t)
	row := func(from int) []api.Metric {
		var l []api.Metric
		for i := range api.MaxItems - 1 {
			l = append(l, with("m"+strconv.Itoa(i), uint64(from+i)))
		}
		return l
	}
	take(t, n, api.SNBirth, "", birth(1, 0, row(0)...), api.ROk)
	take(t, n, api.SDBirth, "a", load(1, row(100)...), api.ROk)
	take(t, n, api.SDBirth, "b", load(2, row(200)[:3]...), api.RFull)
	take(t, n, api.SDBirth, "b", load(2, row(200)[:2]...), api.ROk)
	see(t, n, true, 1, 3, true, api.MaxAliases)
	take(t, n, api.SDBirth, "c", load(3, num("x", 1)), api.ROk)
	take(t, n, api.SDDeath, "a", load(4), api.ROk)
	see(t, n, true, 1, 5, true, 33)
	take(t, n, api.SDBirth, "c", load(5, row(100)...), api.ROk)
}

func TestDeviceDataDeath(t *testing.T) {
	n := fresh(t)
	take(t, n, api.SNBirth, "", birth(1, 0, with("a", 5)), api.ROk)
	for _, kind := range []int{api.SDData, api.SDDeath} {
		take(t, n, kind, "d", load(9), api.RBirth)
		take(t, n, kind, "", load(1), api.RBirth)
	}
	take(t, n, api.SDBirth, "d", load(1, with("x", 6), num("y", 1)), api.ROk)
	take(t, n, api.SDBirth, "e", load(2, with("x", 7)), api.ROk)
	for _, x := range []struct {
		p    api.Payload
		code int
	}{
		{load(9, num("q", 1)), api.RSeq}, {api.Payload{}, api.RSeq}, {load(3, by(5, 1)), api.RAlias}, {load(3, by(7, 1)), api.RAlias}, {load(3, num("y", 9), num("a", 1)), api.RName},
	} {
		take(t, n, api.SDData, "d", x.p, x.code)
	}
	take(t, n, api.SDData, "d", load(3, by(6, 40), num("y", 41)), api.ROk)
	see(t, n, true, 1, 4, true, 3)
	v := n.View()
	if l := v.Devices[0].Items; l[0].V.N != 40 || l[1].V.N != 41 || v.Devices[1].Items[0].V.N != 1 || v.Items[1].V.N != 1 {
		t.Errorf("View: %v", v)
	}
	take(t, n, api.SDDeath, "d", load(3), api.RSeq)
	take(t, n, api.SDDeath, "d", load(4, num("", 5), num("nothing of it counts", 1)), api.ROk)
	see(t, n, true, 1, 5, true, 2)
	v = n.View()
	if v.Devices[0].Online || len(v.Devices[0].Items) != 2 || !v.Devices[1].Online {
		t.Errorf("Devices: %v", v.Devices)
	}
	take(t, n, api.SDData, "d", load(5), api.RBirth)
	take(t, n, api.SDDeath, "d", load(5), api.RBirth)
	take(t, n, api.SDBirth, "d", load(5, with("z", 6)), api.ROk)
	take(t, n, api.SDData, "d", load(6, by(6, 1)), api.ROk)
}

func TestItsOwn(t *testing.T) {
	n := fresh(t)
	p := birth(1, 0, with("a", 5))
	take(t, n, api.SNBirth, "", p, api.ROk)
	take(t, n, api.SDBirth, "d", load(1, num("x", 1)), api.ROk)
	p.Metrics[1].Name = "changed"
	v := n.View()
	v.Items[0].Name, v.Devices[0].Name, v.Devices[0].Items[0].Name = "changed", "changed", "changed"
	w := n.View()
	if w.Items[0].Name != "bdSeq" || w.Items[1].Name != "a" || w.Devices[0].Name != "d" || w.Devices[0].Items[0].Name != "x" {
		t.Errorf("lists that were handed in, or answered, are not kept: %v", w)
	}
	take(t, n, api.SNData, "", load(2, num("a", 77)), api.ROk)
	if w.Items[1].V.N != 1 {
		t.Error("what was answered is changed behind it")
	}
}

func TestNone(t *testing.T) {
	for _, n := range []*Edge{nil, {}, new(Edge)} {
		if n.Take(api.SNBirth, "", birth(1, 0)) != api.RNothing || n.Refuse() != api.RNothing || n.Online() || n.Pending() || n.Aliases() != 0 || !reflect.DeepEqual(n.View(), api.NodeView{}) {
			t.Error("of none: RNothing, false, the zero view, 0")
		}
	}
}

// TestWhatFollows: whatever comes, a device is online only while its node is, no table has more than there may be, and a birth makes pending end.
func TestWhatFollows(t *testing.T) {
	n := fresh(t)
	seed := uint32(17)
	next := func(most int) int {
		seed = seed*1664525 + 1013904223
		return int(seed>>16) % most
	}
	kinds := []int{api.SNBirth, api.SNDeath, api.SNData, api.SDBirth, api.SDDeath, api.SDData, api.SNCmd}
	seen := map[int]int{}
	for range 20000 {
		var l []api.Metric
		for range next(4) {
			m := num([]string{"", "a", "b", "c"}[next(4)], uint64(next(9)))
			m.HasAlias, m.Alias = next(2) == 0, uint64(next(9))
			l = append(l, m)
		}
		seq := n.View().Next
		if next(8) == 0 {
			seq = next(256)
		}
		p := load(seq, l...)
		if next(3) > 0 {
			p.Metrics = append(p.Metrics, num("bdSeq", uint64(next(2))))
		}
		kind := kinds[next(len(kinds))]
		before, pending := n.View(), n.Pending()
		code := n.Take(kind, []string{"", "d", "e", "f", "g", "h"}[next(6)], p)
		seen[code]++
		v := n.View()
		if code != api.ROk && !sameView(v, before) || code != api.ROk && n.Pending() != (pending || code >= api.RDecode) || code == api.ROk && kind == api.SNBirth && n.Pending() {
			t.Fatalf("code %d: %v, was %v", code, v, before)
		}
		if len(v.Items) > api.MaxItems || len(v.Devices) > api.MaxDevices || n.Aliases() > api.MaxAliases || !v.Online && (n.Aliases() != 0 || v.Next != 0 || v.Bd != 0) {
			t.Fatalf("View: %v, %d aliases", v, n.Aliases())
		}
		for i, d := range v.Devices {
			if d.Online && !v.Online || len(d.Items) > api.MaxItems || i > 0 && v.Devices[i-1].Name >= d.Name {
				t.Fatalf("Devices: %v", v)
			}
		}
	}
	for _, code := range []int{api.RNothing, api.ROk, api.RIgnored, api.RSeq, api.RBirth, api.RAlias, api.RName, api.RBd, api.RClash} {
		if seen[code] == 0 {
			t.Errorf("code %d did not come", code)
		}
	}
}
