package trie

import (
	"math"
	"reflect"
	"slices"
	"strconv"
	"strings"
	"testing"

	"crier/api"
	"crier/match"
)

func add(t *testing.T, x *Trie, who int, text string, qos int) bool {
	t.Helper()
	had, e := x.Add(who, api.Filter{Text: text, Qos: qos})
	if e != api.OK {
		t.Fatalf("Add(%d, %q): %d", who, text, e)
	}
	return had
}

func TestAdd(t *testing.T) {
	x := New()
	if x.Len() != 0 || len(x.Of(0)) != 0 || len(x.Hits("a")) != 0 {
		t.Error("of a new one")
	}
	if add(t, x, 0, "a/#", 1) || add(t, x, 0, "a/b", 2) || add(t, x, 7, "a/b", 0) || !add(t, x, 0, "a/#", 0) || x.Len() != 3 {
		t.Errorf("Add: %d", x.Len())
	}
	if got := x.Of(0); !reflect.DeepEqual(got, []api.Filter{{Text: "a/#"}, {Text: "a/b", Qos: 2}}) {
		t.Errorf("Of: %v", got)
	}
	if got := x.Of(7); !reflect.DeepEqual(got, []api.Filter{{Text: "a/b"}}) {
		t.Errorf("Of: %v", got)
	}
	for _, c := range []struct {
		who  int
		text string
		qos  int
		e    api.Errno
	}{
		{-1, "", 9, api.ErrArg}, {8, "a", 0, api.ErrArg}, {math.MinInt, "a", 0, api.ErrArg}, {math.MaxInt, "a", 0, api.ErrArg},
		{0, "", 9, api.ErrFilter}, {0, "a+", 0, api.ErrFilter}, {0, "#/a", 3, api.ErrFilter}, {0, "\xff", 0, api.ErrFilter}, {0, strings.Repeat("x", 97), 0, api.ErrFilter},
		{0, "a/#", 3, api.ErrRange}, {0, "z", -1, api.ErrRange}, {0, "z", math.MinInt, api.ErrRange},
	} {
		if had, e := x.Add(c.who, api.Filter{Text: c.text, Qos: c.qos}); had || e != c.e || x.Len() != 3 {
			t.Errorf("Add(%d, %.10q, %d): %v %d, want %d", c.who, c.text, c.qos, had, e, c.e)
		}
	}
}

func TestFull(t *testing.T) {
	x := New()
	for who := range api.MaxSessions {
		for i := range api.MaxSubs {
			add(t, x, who, "f/"+strconv.Itoa(i), 0)
		}
	}
	if had, e := x.Add(3, api.Filter{Text: "one more"}); had || e != api.ErrFull || x.Len() != api.MaxSubs*api.MaxSessions {
		t.Errorf("one more: %v %d", had, e)
	}
	if _, e := x.Add(3, api.Filter{Text: "one more", Qos: 3}); e != api.ErrRange {
		t.Errorf("one more with another Qos: %d", e)
	}
	if !add(t, x, 3, "f/5", 2) {
		t.Error("one that it has")
	}
	if !x.Drop(3, "f/0") || add(t, x, 3, "one more", 0) {
		t.Error("room again")
	}
	if x.Clear(3) != api.MaxSubs || x.Clear(3) != 0 || len(x.Of(3)) != 0 || x.Len() != api.MaxSubs*(api.MaxSessions-1) {
		t.Errorf("Clear: %v, %d", x.Of(3), x.Len())
	}
	if len(x.Of(2)) != api.MaxSubs || len(x.Of(4)) != api.MaxSubs {
		t.Error("others keep theirs")
	}
	add(t, x, 3, "f/0", 0)
}

func TestDrop(t *testing.T) {
	x := New()
	add(t, x, 0, "a/b", 1)
	add(t, x, 0, "a/b/c", 1)
	add(t, x, 1, "a/b", 2)
	for _, c := range []struct {
		who  int
		text string
		want bool
	}{{2, "a/b", false}, {0, "a", false}, {0, "a/b/c/d", false}, {0, "", false}, {0, "a+", false}, {-1, "a/b", false}, {8, "a/b", false}, {0, "a/b", true}, {0, "a/b", false}, {1, "a/b/c", false}} {
		if got := x.Drop(c.who, c.text); got != c.want {
			t.Errorf("Drop(%d, %q): %v", c.who, c.text, got)
		}
	}
	if got := x.Hits("a/b"); !reflect.DeepEqual(got, []api.Hit{{Who: 1, Qos: 2}}) || x.Len() != 2 {
		t.Errorf("Hits: %v, %d", got, x.Len())
	}
	if !x.Drop(0, "a/b/c") || !x.Drop(1, "a/b") || x.Len() != 0 || len(x.root.below) != 0 {
		t.Errorf("nothing is kept that nobody wants: %v", x.root.below)
	}
	if x.Clear(-1) != 0 || x.Clear(8) != 0 || len(x.Of(-1)) != 0 || len(x.Of(8)) != 0 {
		t.Error("of who can't be")
	}
}

func TestHits(t *testing.T) {
	x := New()
	add(t, x, 0, "a/#", 1)
	add(t, x, 0, "a/b", 2)
	if got := x.Hits("a/b"); !reflect.DeepEqual(got, []api.Hit{{Who: 0, Qos: 2}}) {
		t.Errorf("Hits: %v", got)
	}
	add(t, x, 7, "#", 0)
	add(t, x, 3, "+/b", 1)
	add(t, x, 2, "$a/#", 1)
	for name, want := range map[string][]api.Hit{
		"a/b": {{Who: 0, Qos: 2}, {Who: 3, Qos: 1}, {Who: 7, Qos: 0}}, "a": {{Who: 0, Qos: 1}, {Who: 7, Qos: 0}}, "x": {{Who: 7, Qos: 0}}, "$a/b": {{Who: 2, Qos: 1}}, "$a": {{Who: 2, Qos: 1}}, "$b/b": nil,
		"": nil, "a/+": nil, "#": nil, "\xff": nil,
	} {
		if got := x.Hits(name); len(got) != len(want) || len(got) > 0 && !reflect.DeepEqual(got, want) {
			t.Errorf("Hits(%q): %v, want %v", name, got, want)
		}
	}
}

func TestOfSorted(t *testing.T) {
	x := New()
	texts := []string{"b", "a/b", "a-b", "a", "a/", "/", "+", "a/#", "a/+", "\u00e9", "A"}
	for _, s := range texts {
		add(t, x, 1, s, 0)
	}
	slices.Sort(texts)
	var got []string
	for _, f := range x.Of(1) {
		got = append(got, f.Text)
	}
	if !slices.Equal(got, slices.Compact(texts)) {
		t.Errorf("Of: %q, want %q", got, texts)
	}
	x.Of(1)[0].Text = "z"
	if x.Of(1)[0].Text == "z" {
		t.Error("what was answered is kept")
	}
}

func TestNone(t *testing.T) {
	for _, x := range []*Trie{nil, {}, new(Trie)} {
		if had, e := x.Add(-1, api.Filter{}); had || e != api.ErrZero {
			t.Errorf("Add: %v %d", had, e)
		}
		if x.Drop(0, "a") || x.Clear(0) != 0 || len(x.Hits("a")) != 0 || len(x.Of(0)) != 0 || x.Len() != 0 {
			t.Error("of none: false, 0, none")
		}
	}
}

// TestAnyOrder holds hits against match.Match, whatever the order in which filters came and went.
func TestAnyOrder(t *testing.T) {
	filters := []string{"#", "+", "a", "a/#", "a/+", "+/b", "a/b", "a/b/#", "+/+/c", "$a/#", "$a", "/", "+/#", "a//b", "/+"}
	names := []string{"a", "b", "a/b", "a/c", "a/b/c", "$a", "$a/b", "/", "//", "a//b", "x/y/c", "/a"}
	seed := uint32(1)
	for range 30 {
		x := New()
		has := map[int]map[string]int{}
		for range 60 {
			seed = seed*1664525 + 1013904223
			who, f, qos := int(seed>>8)%api.MaxSessions, filters[int(seed>>16)%len(filters)], int(seed>>24)%3
			if has[who] == nil {
				has[who] = map[string]int{}
			}
			_, had := has[who][f]
			if seed>>28 < 5 {
				if x.Drop(who, f) != had {
					t.Fatal("Drop")
				}
				delete(has[who], f)
				continue
			}
			if got, e := x.Add(who, api.Filter{Text: f, Qos: qos}); got != had || e != api.OK {
				t.Fatal("Add", got, e)
			}
			has[who][f] = qos
		}
		sum := 0
		for _, m := range has {
			sum += len(m)
		}
		if x.Len() != sum {
			t.Errorf("Len: %d, want %d", x.Len(), sum)
		}
		for _, name := range names {
			var want []api.Hit
			for who := range api.MaxSessions {
				best := -1
				for f, qos := range has[who] {
					if match.Match(f, name) {
						best = max(best, qos)
					}
				}
				if best >= 0 {
					want = append(want, api.Hit{Who: who, Qos: best})
				}
			}
			if got := x.Hits(name); !slices.Equal(got, want) {
				t.Errorf("Hits(%q): %v, want %v", name, got, want)
			}
		}
	}
}
