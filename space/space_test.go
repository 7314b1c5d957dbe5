package space

import (
	"math"
	"strings"
	"testing"

	"crier/api"
)

func spot(k int, group, node, device string) api.Spot {
	return api.Spot{K: k, Group: group, Node: node, Device: device}
}

// told are spots that may be, each with its topic.
func told() map[string]api.Spot {
	return map[string]api.Spot{
		"spBv1.0/g/NBIRTH/n": spot(api.SNBirth, "g", "n", ""), "spBv1.0/g/NDEATH/n": spot(api.SNDeath, "g", "n", ""), "spBv1.0/g/NDATA/n": spot(api.SNData, "g", "n", ""), "spBv1.0/g/NCMD/n": spot(api.SNCmd, "g", "n", ""),
		"spBv1.0/g/DBIRTH/n/d": spot(api.SDBirth, "g", "n", "d"), "spBv1.0/g/DDEATH/n/d": spot(api.SDDeath, "g", "n", "d"), "spBv1.0/g/DDATA/n/d": spot(api.SDData, "g", "n", "d"), "spBv1.0/g/DCMD/n/d": spot(api.SDCmd, "g", "n", "d"),
		"spBv1.0/STATE/h": spot(api.SState, "", "h", ""), "spBv1.0/STATE/NBIRTH/n": spot(api.SNBirth, "STATE", "n", ""), "spBv1.0/STATE/STATE": spot(api.SState, "", "STATE", ""),
		"spBv1.0/$g/NDATA/NDATA": spot(api.SNData, "$g", "NDATA", ""), "spBv1.0/\u00e9 x/DDATA/n/\x01": spot(api.SDData, "\u00e9 x", "n", "\x01"),
	}
}

func TestOfPut(t *testing.T) {
	for topic, s := range told() {
		if got := Of(topic); got != s {
			t.Errorf("Of(%q): %v", topic, got)
		}
		if got, e := Put(s); got != topic || e != api.OK {
			t.Errorf("Put(%v): %q %d", s, got, e)
		}
	}
	for _, topic := range []string{
		"", "spBv1.0", "spBv1.0/", "spBv1.0/STATE", "spBv1.0/STATE/", "spBv1.0/STATE/h/", "STATE/h", "spBv1.0/state/h", "spBv1.0/g/h", "spBv1.0/g/STATE/n", "spBv1.0/g/STATE/n/d",
		"spBv1.0/g/NBIRTH", "spBv1.0/g/NBIRTH/", "spBv1.0//NBIRTH/n", "spBv1.0/g/NBIRTH/n/d", "spBv1.0/g/NBIRTH/n/", "spBv1.0/g/DBIRTH/n", "spBv1.0/g/DBIRTH/n/", "spBv1.0/g/DBIRTH//d", "spBv1.0/g/DBIRTH/n/d/e", "spBv1.0/g//n", "spBv1.0/g/nbirth/n", "spBv1.0/g/NBIRTHS/n",
		"spAv1.0/g/NBIRTH/n", "spbv1.0/g/NBIRTH/n", "/spBv1.0/g/NBIRTH/n", "spBv1.0/+/NBIRTH/n", "spBv1.0/g/NBIRTH/#", "spBv1.0/g/NBIRTH/\xff", "spBv1.0/g/NBIRTH/\x00", "spBv1.0/STATE/+", "spBv1.0/g/NBIRTH/" + strings.Repeat("n", 80), "spBv1.0/STATE/" + strings.Repeat("h", 83),
	} {
		if got := Of(topic); got != (api.Spot{}) {
			t.Errorf("Of(%q): %v", topic, got)
		}
	}
	long := "spBv1.0/g/NBIRTH/" + strings.Repeat("n", 79)
	if got := Of(long); got.K != api.SNBirth || len(long) != 96 {
		t.Errorf("as long as may be: %v", got)
	}
}

func TestPutWrong(t *testing.T) {
	for _, x := range []struct {
		s api.Spot
		e api.Errno
	}{
		{spot(0, "", "", "x"), api.ErrKind}, {spot(-1, "g", "n", ""), api.ErrKind}, {spot(10, "g", "n", ""), api.ErrKind}, {spot(math.MinInt, "g", "n", ""), api.ErrKind}, {spot(math.MaxInt, "g", "n", ""), api.ErrKind},
		{spot(api.SNBirth, "", "+", "d"), api.ErrForm}, {spot(api.SNDeath, "g", "n", "d"), api.ErrForm}, {spot(api.SNData, "g", "n", "d"), api.ErrForm}, {spot(api.SNCmd, "g", "n", "d"), api.ErrForm}, {spot(api.SState, "", "h", "d"), api.ErrForm}, {spot(api.SState, "g", "h", ""), api.ErrForm},
		{spot(api.SNBirth, "", "n", ""), api.ErrTopic}, {spot(api.SNBirth, "g", "", ""), api.ErrTopic}, {spot(api.SNBirth, "g/h", "n", ""), api.ErrTopic}, {spot(api.SNBirth, "g", "n/m", ""), api.ErrTopic}, {spot(api.SNBirth, "+", "n", ""), api.ErrTopic}, {spot(api.SNBirth, "g", "n#", ""), api.ErrTopic}, {spot(api.SNBirth, "g", "\xff", ""), api.ErrTopic}, {spot(api.SNBirth, "\x00", "n", ""), api.ErrTopic},
		{spot(api.SDBirth, "g", "n", ""), api.ErrTopic}, {spot(api.SDData, "g", "n", "d/e"), api.ErrTopic}, {spot(api.SDDeath, "g", "", "d"), api.ErrTopic}, {spot(api.SDCmd, "", "n", "d"), api.ErrTopic}, {spot(api.SState, "", "", ""), api.ErrTopic}, {spot(api.SState, "", "a/b", ""), api.ErrTopic},
		{spot(api.SNBirth, "g", strings.Repeat("n", 80), ""), api.ErrTopic}, {spot(api.SNBirth, strings.Repeat("g", 97), "n", ""), api.ErrTopic},
	} {
		if got, e := Put(x.s); got != "" || e != x.e {
			t.Errorf("Put(%v): %q %d, want %d", x.s, got, e, x.e)
		}
	}
	if _, e := Put(spot(api.SNBirth, "g", strings.Repeat("n", 79), "")); e != api.OK {
		t.Errorf("as long as may be: %d", e)
	}
}

func TestWordKind(t *testing.T) {
	words := []string{"", "NBIRTH", "NDEATH", "NDATA", "NCMD", "DBIRTH", "DDEATH", "DDATA", "DCMD", "STATE"}
	for kind, word := range words {
		if Word(kind) != word || Kind(word) != kind {
			t.Errorf("%d: %q, %q: %d", kind, Word(kind), word, Kind(word))
		}
	}
	for _, kind := range []int{math.MinInt, -1, 10, math.MaxInt} {
		if Word(kind) != "" {
			t.Errorf("Word(%d): %q", kind, Word(kind))
		}
	}
	for _, word := range []string{"nbirth", "NBIRTH ", "BIRTH", "STAT", "\xff"} {
		if Kind(word) != api.SNone {
			t.Errorf("Kind(%q): %d", word, Kind(word))
		}
	}
}

func TestBirths(t *testing.T) {
	long := strings.Repeat("n", 79)
	for _, x := range []struct {
		s            api.Spot
		node, device string
	}{
		{spot(api.SNData, "g", "n", ""), "spBv1.0/g/NBIRTH/n", ""}, {spot(api.SNBirth, "g", "n", ""), "spBv1.0/g/NBIRTH/n", ""}, {spot(api.SNCmd, "g", "n", ""), "spBv1.0/g/NBIRTH/n", ""},
		{spot(api.SDData, "g", "n", "d"), "spBv1.0/g/NBIRTH/n", "spBv1.0/g/DBIRTH/n/d"}, {spot(api.SDBirth, "g", "n", "d"), "spBv1.0/g/NBIRTH/n", "spBv1.0/g/DBIRTH/n/d"}, {spot(api.SDDeath, "g", "n", "d"), "spBv1.0/g/NBIRTH/n", "spBv1.0/g/DBIRTH/n/d"},
		{api.Spot{}, "", ""}, {spot(api.SNone, "g", "n", "d"), "", ""}, {spot(api.SState, "", "h", ""), "", ""}, {spot(api.SState, "g", "h", "d"), "", ""},
		{spot(api.SNData, "", "n", ""), "", ""}, {spot(api.SNData, "g", "+", ""), "", ""}, {spot(api.SDData, "g", "n", "#"), "", ""}, {spot(api.SDData, "g/h", "n", "d"), "", ""},
		{spot(api.SNData, "g", long, ""), "spBv1.0/g/NBIRTH/" + long, ""}, {spot(api.SNData, "g", long+"n", ""), "", ""}, {spot(api.SDData, "g", long[:77], "d"), "spBv1.0/g/NBIRTH/" + long[:77], "spBv1.0/g/DBIRTH/" + long[:77] + "/d"}, {spot(api.SDData, "g", long[:78], "d"), "", ""},
	} {
		if node, device := Births(x.s); node != x.node || device != x.device {
			t.Errorf("Births(%v): %q %q", x.s, node, device)
		}
	}
}

// TestWhatWasPutIsTold goes over spots of a few parts: each that may be put is told again, and no two have one topic.
func TestWhatWasPutIsTold(t *testing.T) {
	parts := []string{"", "a", "b/c", "STATE", "NBIRTH", "DDATA", "spBv1.0", "+"}
	topics := map[string]api.Spot{}
	for kind := -1; kind <= 10; kind++ {
		for _, g := range parts {
			for _, n := range parts {
				for _, d := range parts {
					s := spot(kind, g, n, d)
					topic, e := Put(s)
					if e != api.OK {
						continue
					}
					if other, ok := topics[topic]; ok || Of(topic) != s {
						t.Errorf("%v: %q, told as %v, and of %v", s, topic, Of(topic), other)
					}
					topics[topic] = s
				}
			}
		}
	}
	if len(topics) != 5+4*5*5+4*5*5*5 {
		t.Errorf("%d topics", len(topics))
	}
}
