package spark

import (
	"reflect"
	"slices"
	"strconv"
	"strings"
	"testing"

	"crier/api"
	"crier/payload"
)

func num(name string, n uint64) api.Metric {
	return api.Metric{Name: name, Type: 3, V: api.Value{K: api.VInt, N: n}}
}

// text is a payload's bytes with a number.
func text(t *testing.T, seq int, l ...api.Metric) string {
	t.Helper()
	b, e := payload.Put(api.Payload{HasSeq: true, Seq: uint64(seq), Metrics: l})
	if e != api.OK {
		t.Fatalf("Put: %d", e)
	}
	return string(b)
}

func topic(word, rest string) string { return "spBv1.0/g/" + word + "/" + rest }

func take(t *testing.T, s *Spark, at int, topic, text string, want api.Verdict) {
	t.Helper()
	asked := s.Asked()
	if want.Ask {
		asked++
	}
	if v := s.Take(at, api.Msg{Topic: topic, Text: text}); v != want || s.Asked() != asked {
		t.Errorf("Take(%d, %q): %v, want %v; asked %d", at, topic, v, want, s.Asked())
	}
}

func ok(node string) api.Verdict { return api.Verdict{Code: api.ROk, Group: "g", Node: node} }

func no(code int, node string, ask bool) api.Verdict {
	return api.Verdict{Code: code, Group: "g", Node: node, Ask: ask}
}

func TestNothing(t *testing.T) {
	s := New()
	if len(s.Nodes()) != 0 || len(s.Hosts()) != 0 || len(s.Born()) != 0 || s.Asked() != 0 {
		t.Error("nothing is known of a new one")
	}
	for _, x := range []string{"", "a", "a/+", "spBv1.0/g/NBIRTH", topic("NCMD", "n"), topic("DCMD", "n/d"), topic("NBIRTH", "n/d"), topic("NBIRTH", "#"), "spBv1.0/g/STATE/n"} {
		take(t, s, 0, x, text(t, 0, num("bdSeq", 1)), api.Verdict{})
		take(t, s, 0, x, "\xff", api.Verdict{})
	}
	if len(s.Nodes()) != 0 || len(s.Born()) != 0 {
		t.Errorf("Nodes: %v", s.Nodes())
	}
}

func TestHosts(t *testing.T) {
	s := New()
	host := func(code int, h string) api.Verdict { return api.Verdict{Code: code, Node: h} }
	take(t, s, 0, "spBv1.0/STATE/h", "ONLINE", host(api.ROk, "h"))
	take(t, s, 0, "spBv1.0/STATE/h", "x", host(api.RDecode, "h"))
	for i := range api.MaxHosts - 1 {
		take(t, s, 0, "spBv1.0/STATE/a"+strconv.Itoa(i), "OFFLINE", host(api.ROk, "a"+strconv.Itoa(i)))
	}
	take(t, s, 0, "spBv1.0/STATE/z", "ONLINE", host(api.RFull, "z"))
	if !slices.Equal(s.Hosts(), []api.HostView{{Name: "a0"}, {Name: "a1"}, {Name: "a2"}, {Name: "h", Online: true}}) || len(s.Nodes()) != 0 || s.Asked() != 0 {
		t.Errorf("Hosts: %v", s.Hosts())
	}
}

func TestLives(t *testing.T) {
	s := New()
	birth, anew := text(t, 0, num("bdSeq", 1), num("a", 1)), text(t, 5, num("bdSeq", 2))
	dBirth := text(t, 1, num("x", 1))
	take(t, s, 0, topic("NBIRTH", "n"), birth, ok("n"))
	take(t, s, 0, topic("DBIRTH", "n/d"), dBirth, ok("n"))
	take(t, s, 0, topic("DBIRTH", "n/e"), text(t, 2), ok("n"))
	take(t, s, 0, topic("NDATA", "n"), text(t, 3, num("a", 2)), ok("n"))
	take(t, s, 0, topic("DDATA", "n/d"), text(t, 4, num("x", 2)), ok("n"))
	want := []api.Birth{{Topic: topic("NBIRTH", "n"), Text: birth}, {Topic: topic("DBIRTH", "n/d"), Text: dBirth}, {Topic: topic("DBIRTH", "n/e"), Text: text(t, 2)}}
	if !slices.Equal(s.Born(), want) {
		t.Errorf("Born: %v", s.Born())
	}
	if got := s.Births([]api.Filter{{Text: "spBv1.0/+/DBIRTH/+/e"}, {Text: topic("NBIRTH", "n")}}); !slices.Equal(got, []api.Birth{want[0], want[2]}) {
		t.Errorf("Births: %v", got)
	}
	if len(s.Births(nil)) != 0 || len(s.Births([]api.Filter{{Text: "x"}})) != 0 {
		t.Error("Births that nobody wants")
	}
	take(t, s, 0, topic("DDEATH", "n/d"), text(t, 5), ok("n"))
	if !slices.Equal(s.Born(), []api.Birth{want[0], want[2]}) {
		t.Errorf("Born: %v", s.Born())
	}
	take(t, s, 0, topic("NDEATH", "n"), text(t, 0, num("bdSeq", 9)), no(api.RIgnored, "n", false))
	if len(s.Born()) != 2 {
		t.Errorf("a death of another life: %v", s.Born())
	}
	take(t, s, 0, topic("NBIRTH", "n"), anew, ok("n"))
	if !slices.Equal(s.Born(), []api.Birth{{Topic: topic("NBIRTH", "n"), Text: anew}}) {
		t.Errorf("Born anew: %v", s.Born())
	}
	take(t, s, 0, topic("NBIRTH", "n"), text(t, 0), no(api.RBd, "n", true))
	if !slices.Equal(s.Born(), []api.Birth{{Topic: topic("NBIRTH", "n"), Text: anew}}) {
		t.Errorf("a birth that is refused: %v", s.Born())
	}
	take(t, s, 0, topic("DBIRTH", "n/d"), text(t, 6), ok("n"))
	take(t, s, 0, topic("NDEATH", "n"), text(t, 0, num("bdSeq", 2)), ok("n"))
	if len(s.Born()) != 0 {
		t.Errorf("a death: %v", s.Born())
	}
	v := s.Nodes()
	if len(v) != 1 || v[0].Group != "g" || v[0].Name != "n" || v[0].Online || !v[0].Pending || len(v[0].Devices) != 1 {
		t.Errorf("Nodes: %v", v)
	}
}

func TestAsks(t *testing.T) {
	s := New()
	take(t, s, 5, topic("NDATA", "n"), text(t, 0), no(api.RBirth, "n", true))
	take(t, s, 14, topic("NDATA", "n"), text(t, 0), no(api.RBirth, "n", false))
	take(t, s, 14, topic("NBIRTH", "m"), "\xff", no(api.RDecode, "m", true))
	take(t, s, 15, topic("DDATA", "n/d"), "\xff", no(api.RDecode, "n", true))
	take(t, s, 20, topic("NBIRTH", "n"), text(t, 0, num("bdSeq", 1)), ok("n"))
	take(t, s, 24, topic("NDATA", "n"), text(t, 9), no(api.RSeq, "n", false))
	take(t, s, 25, topic("NDATA", "n"), text(t, 9), no(api.RSeq, "n", true))
	take(t, s, 25, "spBv1.0/h/NDATA/n", text(t, 9), api.Verdict{Code: api.RBirth, Group: "h", Node: "n", Ask: true})
	take(t, s, 25, "spBv1.0/h/NDEATH/n", text(t, 9, num("bdSeq", 1)), api.Verdict{Code: api.RIgnored, Group: "h", Node: "n"})
	for _, at := range []int{-1, api.MaxClock + 1} {
		take(t, s, at, topic("NDATA", "n"), "\xff", no(api.RDecode, "n", false))
	}
	if v := s.Nodes(); len(v) != 3 || !v[0].Pending || v[0].Name != "m" || v[1].Name != "n" || v[2].Group != "h" {
		t.Errorf("Nodes: %v", v)
	}
}

func TestFull(t *testing.T) {
	s := New()
	words := []string{"NBIRTH", "NDEATH", "NDATA", "DBIRTH", "DDEATH", "DDATA"}
	var names []string
	for i := range api.MaxNodes {
		word := words[i%len(words)]
		rest := "n" + strconv.Itoa(9-i)
		names = append(names, rest)
		if word[0] == 'D' {
			rest += "/d"
		}
		s.Take(0, api.Msg{Topic: topic(word, rest), Text: text(t, 0)})
	}
	slices.Sort(names)
	asked := s.Asked()
	for _, x := range []string{"\xff", text(t, 0, num("bdSeq", 1))} {
		take(t, s, 0, topic("NBIRTH", "more"), x, no(api.RFull, "more", false))
		take(t, s, 0, topic("DDATA", "more/d"), x, no(api.RFull, "more", false))
	}
	take(t, s, 0, topic("NCMD", "more"), "", api.Verdict{})
	take(t, s, 0, topic("NBIRTH", "n9"), text(t, 0, num("bdSeq", 1)), ok("n9"))
	var got []string
	for _, v := range s.Nodes() {
		got = append(got, v.Name)
	}
	if !slices.Equal(got, names) || s.Asked() != asked {
		t.Errorf("Nodes: %q", got)
	}
}

func TestOrder(t *testing.T) {
	s := New()
	for _, x := range []string{"b/NDATA/a", "a/NDATA/b", "a-/NDATA/a", "a/NDATA/a"} {
		s.Take(0, api.Msg{Topic: "spBv1.0/" + x, Text: ""})
	}
	var got []string
	for _, v := range s.Nodes() {
		got = append(got, v.Group+" "+v.Name)
	}
	if strings.Join(got, ",") != "a a,a b,a- a,b a" {
		t.Errorf("Nodes: %q", got)
	}
}

func TestNone(t *testing.T) {
	for _, s := range []*Spark{nil, {}, new(Spark)} {
		if s.Take(0, api.Msg{Topic: topic("NDATA", "n")}) != (api.Verdict{}) || len(s.Nodes()) != 0 || len(s.Hosts()) != 0 || len(s.Births([]api.Filter{{Text: "#"}})) != 0 || len(s.Born()) != 0 || s.Asked() != 0 {
			t.Error("of none: the zero Verdict; none, 0")
		}
	}
}

// TestBornAreOnline: whatever comes, the births are those of the nodes and devices that are online, each as it came last; and two sparks that took the same know the same.
func TestBornAreOnline(t *testing.T) {
	s, other := New(), New()
	last := map[string]string{}
	seed := uint32(29)
	next := func(most int) int {
		seed = seed*1664525 + 1013904223
		return int(seed>>16) % most
	}
	words := []string{"NBIRTH", "NDEATH", "NDATA", "DBIRTH", "DDEATH", "DDATA"}
	born := 0
	for at := range 8000 {
		word, node := words[next(6)], "n"+strconv.Itoa(next(3))
		name := topic(word, node)
		if word[0] == 'D' {
			name += "/d" + strconv.Itoa(next(3))
		}
		seq := next(3)
		for _, v := range s.Nodes() {
			if v.Name == node && next(5) > 0 {
				seq = v.Next
			}
		}
		m := api.Msg{Topic: name, Text: text(t, seq, num("bdSeq", uint64(next(2))), num("a", uint64(at)))}
		if word == "DBIRTH" || word == "DDATA" {
			m.Text = text(t, seq, num("a", uint64(at)))
		}
		v := s.Take(at, m)
		if w := other.Take(at, m); w != v {
			t.Fatalf("%v, and %v", v, w)
		}
		if v.Code == api.ROk && (word == "NBIRTH" || word == "DBIRTH") {
			last[name] = m.Text
		}
		var want []api.Birth
		for _, v := range s.Nodes() {
			if v.Online {
				want = append(want, api.Birth{Topic: topic("NBIRTH", v.Name), Text: last[topic("NBIRTH", v.Name)]})
			}
			for _, d := range v.Devices {
				if d.Online {
					x := topic("DBIRTH", v.Name+"/"+d.Name)
					want = append(want, api.Birth{Topic: x, Text: last[x]})
				}
			}
		}
		born = max(born, len(want))
		if !slices.Equal(s.Born(), want) {
			t.Fatalf("Born: %v, want %v", s.Born(), want)
		}
	}
	if !reflect.DeepEqual(s.Nodes(), other.Nodes()) || s.Asked() != other.Asked() || born < 5 {
		t.Errorf("%d born at most", born)
	}
}
