package level

import (
	"reflect"
	"strings"
	"testing"

	"crier/api"
)

func TestSplit(t *testing.T) {
	for _, x := range []struct {
		s string
		l []string
	}{
		{"", []string{""}}, {"a", []string{"a"}}, {"/", []string{"", ""}}, {"a//b", []string{"a", "", "b"}}, {"/a/", []string{"", "a", ""}},
		{"+/#", []string{"+", "#"}}, {"\xff/\u00e9/\x00", []string{"\xff", "\u00e9", "\x00"}}, {strings.Repeat("/", 500), make([]string, 501)},
	} {
		if l := Split(x.s); !reflect.DeepEqual(l, x.l) {
			t.Errorf("Split(%q): %q", x.s, l)
		}
		if s := Join(x.l); s != x.s {
			t.Errorf("Join(%q): %q", x.l, s)
		}
	}
	if Join(nil) != "" || Join([]string{"a", "b/c"}) != "a/b/c" {
		t.Error("Join")
	}
}

func TestName(t *testing.T) {
	for _, x := range []struct {
		s            string
		name, filter bool
	}{
		{"a", true, true}, {"a//b", true, true}, {"/", true, true}, {"$SYS/x", true, true}, {"a b", true, true}, {"\u00e9/\U0010ffff", true, true}, {"a\x01", true, true},
		{"", false, false}, {"\x00", false, false}, {"a/\xff", false, false}, {"+/\xff", false, false},
		{"+", false, true}, {"#", false, true}, {"a/+/#", false, true}, {"+/+", false, true}, {"/+", false, true}, {"+/", false, true}, {"/#", false, true}, {"$SYS/#", false, true},
		{"a+", false, false}, {"+a", false, false}, {"a/b+/c", false, false}, {"#/a", false, false}, {"a#", false, false}, {"a/#b", false, false}, {"##", false, false}, {"++", false, false}, {"#/#", false, false}, {"+#", false, false}, {"#/", false, false}, {"a/+#", false, false},
		{strings.Repeat("x", api.MaxTopic), true, true}, {strings.Repeat("x", api.MaxTopic+1), false, false}, {strings.Repeat("\u00e9", api.MaxTopic/2), true, true}, {strings.Repeat("\u00e9", api.MaxTopic/2) + "x", false, false},
		{strings.Repeat("/", api.MaxLevels-1), true, true}, {strings.Repeat("/", api.MaxLevels), false, false}, {strings.Repeat("+/", api.MaxLevels-1) + "#", false, true}, {strings.Repeat("+/", api.MaxLevels) + "#", false, false},
		{strings.Repeat("x", api.MaxTopic-1) + "+", false, false}, {strings.Repeat("x", api.MaxTopic-2) + "/+", false, true}, {strings.Repeat("x", api.MaxTopic-1) + "/+", false, false},
	} {
		if Name(x.s) != x.name || Filter(x.s) != x.filter {
			t.Errorf("%.30q: Name %v, Filter %v", x.s, Name(x.s), Filter(x.s))
		}
	}
}

func TestHidden(t *testing.T) {
	for s, want := range map[string]bool{"$": true, "$SYS/a": true, "$\xff": true, "": false, "a$": false, "/$": false, "+": false} {
		if Hidden(s) != want {
			t.Errorf("Hidden(%q): %v", s, !want)
		}
	}
}

// TestAllShort goes over all texts of a few signs: levels joined are what was split, a name is a filter, a filter without signs is a name.
func TestAllShort(t *testing.T) {
	signs := []string{"a", "/", "+", "#", "$", "\u00e9", "\xff", "\x00"}
	l := []string{""}
	for range 4 {
		var more []string
		for _, s := range l {
			for _, x := range signs {
				more = append(more, s+x)
			}
		}
		l = more
		for _, s := range l {
			if Join(Split(s)) != s || len(Split(s)) != 1+strings.Count(s, "/") {
				t.Errorf("%q: %q", s, Split(s))
			}
			if Name(s) != (Filter(s) && !strings.ContainsAny(s, "+#")) {
				t.Errorf("%q: Name %v, Filter %v", s, Name(s), Filter(s))
			}
		}
	}
}
