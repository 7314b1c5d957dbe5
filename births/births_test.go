package births

import (
	"slices"
	"strconv"
	"testing"

	"crier/api"
)

func node(n string) string { return "spBv1.0/g/NBIRTH/" + n }

func dev(n, d string) string { return "spBv1.0/g/DBIRTH/" + n + "/" + d }

func put(t *testing.T, b *Births, topic, text string, want api.Errno) {
	t.Helper()
	before := b.All()
	if e := b.Put(topic, text); e != want {
		t.Errorf("Put(%q): %d, want %d", topic, e, want)
	}
	if want != api.OK && !slices.Equal(b.All(), before) {
		t.Errorf("what is refused changes nothing: %v", b.All())
	}
}

func topics(l []api.Birth) []string {
	var all []string
	for _, x := range l {
		all = append(all, x.Topic)
	}
	return all
}

func TestPut(t *testing.T) {
	b := New()
	if b.Len() != 0 || len(b.All()) != 0 || b.Drop(node("n")) != 0 {
		t.Error("nothing was born of a new one")
	}
	for _, topic := range []string{"", "a", "spBv1.0/g/NDEATH/n", "spBv1.0/g/NDATA/n", "spBv1.0/g/NCMD/n", "spBv1.0/g/DDEATH/n/d", "spBv1.0/g/DDATA/n/d", "spBv1.0/STATE/h", "spBv1.0/g/NBIRTH/n/d", "spBv1.0/g/DBIRTH/n", "spBv1.0/g/NBIRTH/+"} {
		put(t, b, topic, "x", api.ErrTopic)
		if text, ok := b.Get(topic); text != "" || ok || b.Drop(topic) != 0 {
			t.Errorf("of %q: %q %v", topic, text, ok)
		}
	}
	put(t, b, node("n"), "1", api.OK)
	put(t, b, dev("n", "d"), "\x00\xff", api.OK)
	put(t, b, dev("n", "e"), "", api.OK)
	put(t, b, node("m"), "3", api.OK)
	put(t, b, dev("m", "d"), "4", api.OK)
	put(t, b, dev("n", "d"), "5", api.OK)
	want := []api.Birth{{Topic: node("m"), Text: "3"}, {Topic: dev("m", "d"), Text: "4"}, {Topic: node("n"), Text: "1"}, {Topic: dev("n", "d"), Text: "5"}, {Topic: dev("n", "e")}}
	if !slices.Equal(b.All(), want) || b.Len() != 5 {
		t.Errorf("All: %v", b.All())
	}
	if text, ok := b.Get(dev("n", "e")); text != "" || !ok {
		t.Errorf("Get: %q %v", text, ok)
	}
	if text, ok := b.Get(dev("n", "d")); text != "5" || !ok {
		t.Errorf("Get: %q %v", text, ok)
	}
	put(t, b, node("n"), "6", api.OK)
	if !slices.Equal(b.All(), []api.Birth{want[0], want[1], {Topic: node("n"), Text: "6"}}) {
		t.Errorf("a node's birth drops its devices': %v", b.All())
	}
	b.All()[0].Text = "changed"
	if b.All()[0].Text != "3" {
		t.Error("what was answered is kept")
	}
}

func TestDrop(t *testing.T) {
	b := New()
	for _, topic := range []string{node("n"), dev("n", "d"), dev("n", "e"), node("nn"), dev("o", "d"), dev("o", "e")} {
		put(t, b, topic, "x", api.OK)
	}
	for _, x := range []struct {
		topic string
		n     int
	}{{dev("n", "d"), 1}, {dev("n", "d"), 0}, {node("n"), 2}, {node("n"), 0}, {node("o"), 2}, {node("q"), 0}, {dev("nn", "d"), 0}, {"spBv1.0/g/NDEATH/nn", 0}} {
		if n := b.Drop(x.topic); n != x.n {
			t.Errorf("Drop(%q): %d, want %d", x.topic, n, x.n)
		}
	}
	if !slices.Equal(topics(b.All()), []string{node("nn")}) {
		t.Errorf("All: %v", b.All())
	}
}

func TestOrder(t *testing.T) {
	b := New()
	all := []string{
		"spBv1.0/A/NBIRTH/z", "spBv1.0/A/DBIRTH/z/q", "spBv1.0/g/NBIRTH/a", dev("a", "A"), dev("a", "a"), dev("a", "a b"), dev("a", "b"),
		node("a-"), node("a0"), dev("a0", "0"), dev("b", "x"), node("c"), "spBv1.0/h/NBIRTH/a",
	}
	seed := uint32(23)
	for range 20 {
		b = New()
		order := slices.Clone(all)
		for i := range order {
			seed = seed*1664525 + 1013904223
			j := int(seed>>16) % len(order)
			order[i], order[j] = order[j], order[i]
		}
		for pass := range 2 { // a node's birth drops its devices', so devices come behind
			for _, topic := range order {
				if isNode := topic[10] == 'N'; isNode == (pass == 0) {
					put(t, b, topic, topic, api.OK)
				}
			}
		}
		if !slices.Equal(topics(b.All()), all) {
			t.Fatalf("All: %q", topics(b.All()))
		}
	}
	f := func(l ...string) []api.Filter {
		var all []api.Filter
		for _, s := range l {
			all = append(all, api.Filter{Text: s})
		}
		return all
	}
	for _, x := range []struct {
		l    []api.Filter
		want []string
	}{
		{nil, nil}, {f("#", "spBv1.0/#", "#"), all}, {f("spBv1.0/+/NBIRTH/#"), []string{all[0], all[2], all[7], all[8], all[11], all[12]}}, {f(dev("a", "b"), dev("a", "a"), "x", "#/x"), []string{all[4], all[6]}},
		{f("spBv1.0/g/+/a/#", "spBv1.0/A/+/z"), []string{all[0], all[2], all[3], all[4], all[5], all[6]}}, {f("+"), nil}, {f(""), nil},
	} {
		got := b.Find(x.l)
		if !slices.Equal(topics(got), x.want) {
			t.Errorf("Find(%v): %q, want %q", x.l, topics(got), x.want)
		}
		for _, birth := range got {
			if birth.Text != birth.Topic {
				t.Errorf("Find: %v", birth)
			}
		}
	}
}

func TestFull(t *testing.T) {
	b := New()
	for n := range api.MaxNodes {
		put(t, b, node(strconv.Itoa(n)), "x", api.OK)
		for d := range api.MaxDevices {
			put(t, b, dev(strconv.Itoa(n), strconv.Itoa(d)), "x", api.OK)
		}
	}
	if b.Len() != 40 {
		t.Errorf("Len: %d", b.Len())
	}
	put(t, b, dev("0", "more"), "x", api.ErrFull)
	put(t, b, node("more"), "x", api.ErrFull)
	put(t, b, "more", "x", api.ErrTopic)
	put(t, b, dev("3", "3"), "y", api.OK)
	put(t, b, node("3"), "y", api.OK)
	if b.Len() != 36 {
		t.Errorf("Len: %d", b.Len())
	}
	for i := range 4 {
		put(t, b, dev("q", strconv.Itoa(i)), "x", api.OK)
	}
	put(t, b, node("more"), "x", api.ErrFull)
	put(t, b, node("q"), "x", api.OK) // its devices' births are there, and go
	if b.Len() != 37 {
		t.Errorf("Len: %d", b.Len())
	}
}

func TestNone(t *testing.T) {
	for _, b := range []*Births{nil, {}, new(Births)} {
		if b.Put("a", "x") != api.ErrZero || b.Put(node("n"), "x") != api.ErrZero {
			t.Error("Put")
		}
		text, ok := b.Get(node("n"))
		if text != "" || ok || b.Drop(node("n")) != 0 || len(b.Find([]api.Filter{{Text: "#"}})) != 0 || len(b.All()) != 0 || b.Len() != 0 {
			t.Error("of none: ErrZero; 0, empty, false, none")
		}
	}
}
