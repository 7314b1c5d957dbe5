package retain

import (
	"slices"
	"strconv"
	"strings"
	"testing"

	"crier/api"
)

func keep(t *testing.T, s *Store, topic, text string, want bool) {
	t.Helper()
	if had, e := s.Keep(api.Msg{Topic: topic, Text: text}); had != want || e != api.OK {
		t.Errorf("Keep(%q, %q): %v %d", topic, text, had, e)
	}
}

func TestKeep(t *testing.T) {
	s := New()
	if s.Len() != 0 || len(s.All()) != 0 || len(s.Find("#")) != 0 {
		t.Error("nothing stays of a new one")
	}
	for _, topic := range []string{"", "+", "a/#", "a+", "\x00", "\xff", strings.Repeat("x", 97), strings.Repeat("/", 12)} {
		for _, text := range []string{"", "x"} {
			if had, e := s.Keep(api.Msg{Topic: topic, Text: text}); had || e != api.ErrTopic || s.Len() != 0 {
				t.Errorf("Keep(%.10q): %v %d", topic, had, e)
			}
		}
	}
	keep(t, s, "a", "", false)
	keep(t, s, "a", "x", false)
	keep(t, s, "a", "y", true)
	keep(t, s, "b", "z", false)
	if m, ok := s.Get("a"); m != (api.Msg{Topic: "a", Text: "y", Retain: true}) || !ok || s.Len() != 2 {
		t.Errorf("Get: %v %v", m, ok)
	}
	keep(t, s, "a", "", true)
	keep(t, s, "a", "", false)
	if m, ok := s.Get("a"); m != (api.Msg{}) || ok || s.Len() != 1 {
		t.Errorf("Get of none: %v %v", m, ok)
	}
	if _, ok := s.Get(""); ok {
		t.Error("Get of no name")
	}
	s.Keep(api.Msg{Topic: "b", Text: "w", Qos: 2, Retain: true})
	if m, _ := s.Get("b"); m != (api.Msg{Topic: "b", Text: "w", Qos: 2, Retain: true}) {
		t.Errorf("the last one stays: %v", m)
	}
}

func TestFull(t *testing.T) {
	s := New()
	for i := range api.MaxRetained {
		keep(t, s, "t/"+strconv.Itoa(i), "x", false)
	}
	if had, e := s.Keep(api.Msg{Topic: "more", Text: "x"}); had || e != api.ErrFull || s.Len() != api.MaxRetained {
		t.Errorf("one more: %v %d", had, e)
	}
	keep(t, s, "more", "", false)
	keep(t, s, "t/5", "y", true)
	keep(t, s, "t/6", "", true)
	keep(t, s, "more", "x", false)
	if s.Len() != api.MaxRetained {
		t.Errorf("Len: %d", s.Len())
	}
}

func TestFind(t *testing.T) {
	s := New()
	topics := []string{"b", "a/b", "a-b", "a", "a/", "$SYS/x", "/", "\u00e9", "A", "a/c"}
	for i, topic := range topics {
		s.Keep(api.Msg{Topic: topic, Text: "x", Qos: i % 3})
	}
	slices.Sort(topics)
	names := func(l []api.Msg) []string {
		var got []string
		for _, m := range l {
			if !m.Retain || m.Text != "x" {
				t.Errorf("%v", m)
			}
			got = append(got, m.Topic)
		}
		return got
	}
	if got := names(s.All()); !slices.Equal(got, topics) {
		t.Errorf("All: %q, want %q", got, topics)
	}
	for filter, want := range map[string][]string{
		"a/+": {"a/", "a/b", "a/c"}, "a/#": {"a", "a/", "a/b", "a/c"}, "b": {"b"}, "$SYS/#": {"$SYS/x"}, "+/x": nil, "+": {"A", "a", "a-b", "b", "\u00e9"}, "x": nil, "": nil, "a+": nil, "#/a": nil, "\xff": nil,
	} {
		if got := names(s.Find(filter)); !slices.Equal(got, want) {
			t.Errorf("Find(%q): %q, want %q", filter, got, want)
		}
	}
	if got := s.Find("#"); len(got) != len(topics)-1 {
		t.Errorf("Find(#): %v", got)
	}
	s.All()[0].Text = "changed"
	s.Find("b")[0].Text = "changed"
	names(s.All())
}

func TestNone(t *testing.T) {
	for _, s := range []*Store{nil, {}, new(Store)} {
		if had, e := s.Keep(api.Msg{}); had || e != api.ErrZero {
			t.Errorf("Keep: %v %d", had, e)
		}
		if m, ok := s.Get("a"); m != (api.Msg{}) || ok || len(s.Find("#")) != 0 || len(s.All()) != 0 || s.Len() != 0 {
			t.Error("of none: false, none, 0")
		}
	}
}
