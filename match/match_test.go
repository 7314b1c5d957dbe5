package match

import (
	"strings"
	"testing"

	"crier/level"
)

func TestMatch(t *testing.T) {
	for _, x := range []struct {
		filter, name string
		want         bool
	}{
		{"a/#", "a", true}, {"a/#", "a/b/c", true}, {"a/#", "a/", true}, {"a/#", "b", false}, {"a/#", "ab", false},
		{"a/+", "a/b", true}, {"a/+", "a", false}, {"a/+", "a/b/c", false}, {"a/+", "a/", true}, {"+", "a", true}, {"+", "/a", false}, {"+/+", "/a", true}, {"/+", "/a", true}, {"+/a", "/a", true},
		{"#", "a", true}, {"#", "/", true}, {"#", "a/b/c", true}, {"#", "$SYS", false}, {"+", "$SYS", false}, {"+/x", "$SYS/x", false}, {"#", "a/$SYS", true}, {"$SYS/#", "$SYS", true}, {"$SYS/+", "$SYS/x", true}, {"a/+", "a/$x", true}, {"$SYS", "$SYS", true}, {"/#", "$SYS", false},
		{"a", "a", true}, {"a", "b", false}, {"a/b", "a", false}, {"a", "a/b", false}, {"a//b", "a//b", true}, {"a/+/b", "a//b", true}, {"a", "A", false},
		{"+/b/#", "a/b", true}, {"+/b/#", "a/b/c/d", true}, {"+/b/#", "a/c", false}, {"+/+/#", "a", false},
		{"a/#", "a/+", false}, {"#", "", false}, {"", "", false}, {"", "a", false}, {"#", "#", false}, {"+", "+", false}, {"a+", "a+", false}, {"#/a", "b/a", false}, {"#", "a\x00", false}, {"\xff", "\xff", false},
		{"#", strings.Repeat("x", 96), true}, {"#", strings.Repeat("x", 97), false}, {strings.Repeat("x", 97), strings.Repeat("x", 97), false}, {"#", strings.Repeat("/", 11), true}, {"#", strings.Repeat("/", 12), false},
	} {
		if got := Match(x.filter, x.name); got != x.want {
			t.Errorf("Match(%.20q, %.20q): %v", x.filter, x.name, got)
		}
	}
}

func TestWide(t *testing.T) {
	for s, want := range map[string]bool{"+": true, "#": true, "a/+/b": true, "a/#": true, "a": false, "a/b": false, "": false, "a+": false, "#/a": false, "+/\x00": false, "\xff": false} {
		if Wide(s) != want {
			t.Errorf("Wide(%q): %v", s, !want)
		}
	}
}

func TestCovers(t *testing.T) {
	for _, x := range []struct {
		a, b string
		want bool
	}{
		{"#", "#", true}, {"#", "+", true}, {"#", "a/+/#", true}, {"a/#", "a", true}, {"a/#", "a/#", true}, {"a/#", "a/+/b", true}, {"a/#", "#", false}, {"a/#", "+/b", false},
		{"+", "a", true}, {"+", "+", true}, {"+", "#", false}, {"+/#", "#", false}, {"+/#", "+", true}, {"+/#", "a/#", true}, {"+/+", "a/#", false}, {"a", "+", false}, {"a", "a", true}, {"a", "a/#", false}, {"a/+", "a/b", true}, {"a/+", "a", false},
		{"#", "$SYS", false}, {"#", "$SYS/#", false}, {"+/a", "$SYS/a", false}, {"$SYS/#", "$SYS/a", true}, {"+", "$", false}, {"$a/+", "$a/$b", true},
		{"#", "a+", false}, {"#", "", false}, {"", "a", false}, {"#/a", "b/a", false}, {"#", "\xff", false}, {"a#", "a#", false},
	} {
		if got := Covers(x.a, x.b); got != x.want {
			t.Errorf("Covers(%q, %q): %v", x.a, x.b, got)
		}
	}
}

// all are all filters and names of up to three levels out of a few.
func all() []string {
	parts := []string{"", "a", "b", "$a", "+", "#"}
	l := append([]string{}, parts...)
	for _, x := range parts {
		for _, y := range parts {
			l = append(l, x+"/"+y)
			for _, z := range parts {
				l = append(l, x+"/"+y+"/"+z)
			}
		}
	}
	return l
}

// wants says it once more, by hand.
func wants(filter, name string) bool {
	f, n := strings.Split(filter, "/"), strings.Split(name, "/")
	if (f[0] == "+" || f[0] == "#") && strings.HasPrefix(name, "$") {
		return false
	}
	for i, x := range f {
		if x == "#" {
			return true
		}
		if i >= len(n) || x != "+" && x != n[i] {
			return false
		}
	}
	return len(f) == len(n)
}

func TestWhatFollows(t *testing.T) {
	var names, filters []string
	for _, s := range all() {
		if level.Name(s) {
			names = append(names, s)
		}
		if level.Filter(s) {
			filters = append(filters, s)
		}
	}
	for _, f := range filters {
		for _, n := range names {
			if Match(f, n) != wants(f, n) {
				t.Errorf("Match(%q, %q): %v", f, n, Match(f, n))
			}
			if !Wide(f) && Match(f, n) != (f == n) {
				t.Errorf("%q is not wide, and wants %q: %v", f, n, Match(f, n))
			}
		}
		for _, g := range filters {
			if !Covers(f, g) {
				continue
			}
			for _, n := range names {
				if Match(g, n) && !Match(f, n) {
					t.Errorf("%q covers %q, but does not want %q", f, g, n)
				}
			}
		}
	}
	if len(names) < 80 || len(filters) < 150 {
		t.Errorf("%d names, %d filters", len(names), len(filters))
	}
}
