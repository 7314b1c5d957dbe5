package framer

import (
	"reflect"
	"strings"
	"testing"

	"crier/api"
)

func raw(kind, flags int, body string) api.Raw {
	return api.Raw{H: api.Head{Kind: kind, Flags: flags, Len: len(body)}, Body: body}
}

// drain takes packets till there is none, or an error.
func drain(f *Framer) ([]api.Raw, api.Errno) {
	var l []api.Raw
	for {
		x, ok, e := f.Next()
		if e != api.OK || !ok {
			return l, e
		}
		l = append(l, x)
	}
}

func TestNext(t *testing.T) {
	f := New()
	if x, ok, e := f.Next(); x != (api.Raw{}) || ok || e != api.OK || f.Waits() != 0 || f.Taken() != 0 || f.Dead() {
		t.Errorf("of a new one: %v %v %d", x, ok, e)
	}
	f.Feed("\xc0")
	if x, ok, e := f.Next(); x != (api.Raw{}) || ok || e != api.OK || f.Waits() != 1 {
		t.Errorf("half a head: %v %v %d", x, ok, e)
	}
	f.Feed("\x00\xc0")
	if x, ok, e := f.Next(); x != raw(api.PPingreq, 0, "") || !ok || e != api.OK || f.Waits() != 1 || f.Taken() != 1 {
		t.Errorf("a packet: %v %v %d, %d wait", x, ok, e, f.Waits())
	}
	f.Feed("\x00\x32\x03ab")
	if l, e := drain(f); len(l) != 1 || e != api.OK || f.Waits() != 4 || f.Taken() != 2 {
		t.Errorf("then: %v %d", l, e)
	}
	f.Feed("")
	f.Feed("c")
	if x, ok, e := f.Next(); x != raw(api.PPublish, 2, "abc") || !ok || e != api.OK || f.Waits() != 0 || f.Taken() != 3 {
		t.Errorf("a packet with a body: %v %v %d", x, ok, e)
	}
	f.Feed("\x30\x80\x20" + strings.Repeat("x", 4095))
	if _, ok, _ := f.Next(); ok || f.Waits() != 4098 {
		t.Error("all but one byte")
	}
	f.Feed("x")
	if x, ok, e := f.Next(); len(x.Body) != 4096 || !ok || e != api.OK {
		t.Errorf("a greatest one: %d %v %d", len(x.Body), ok, e)
	}
}

func TestDead(t *testing.T) {
	for b, want := range map[string]api.Errno{"\x00": api.ErrKind, "\xff": api.ErrKind, "\xc1": api.ErrFlags, "\x36\x00": api.ErrFlags, "\xc0\x81\x20": api.ErrLong, "\xc0\xff\xff\xff\xff": api.ErrLong} {
		f := New()
		f.Feed("\xc0\x00" + b + "\xc0\x00")
		if _, ok, e := f.Next(); !ok || e != api.OK || f.Dead() {
			t.Errorf("%x: what stands ahead is taken: %v %d", b, ok, e)
		}
		for range 3 {
			if x, ok, e := f.Next(); x != (api.Raw{}) || ok || e != want || !f.Dead() || f.Waits() != 0 || f.Taken() != 1 {
				t.Errorf("%x: %v %v %d, want %d; %d wait", b, x, ok, e, want, f.Waits())
			}
			if e := f.Feed("\xc0\x00"); e != api.OK || f.Waits() != 0 {
				t.Errorf("%x: a dead one takes bytes: %d, %d wait", b, e, f.Waits())
			}
		}
	}
}

func TestNone(t *testing.T) {
	for _, f := range []*Framer{nil, {}, new(Framer)} {
		if e := f.Feed("\xc0\x00"); e != api.ErrZero {
			t.Errorf("Feed: %d", e)
		}
		if x, ok, e := f.Next(); x != (api.Raw{}) || ok || e != api.ErrZero {
			t.Errorf("Next: %v %v %d", x, ok, e)
		}
		if f.Waits() != 0 || f.Taken() != 0 || f.Dead() {
			t.Error("of none: 0, false")
		}
	}
}

func TestChunks(t *testing.T) {
	for _, all := range []string{
		"\xc0\x00\x32\x03abc\x30\x80\x01" + strings.Repeat("y", 128) + "\xe0\x00\x10\x05ab",
		"\xc0\x00\x82\x02ab\x80\x00\xc0\x00", "\xc0\x80\x80\x00\xc0\xff\xff\xff\xff\x01",
	} {
		whole := New()
		whole.Feed(all)
		want, wantE := drain(whole)
		for size := 1; size <= len(all); size++ {
			for _, eager := range []bool{false, true} {
				f := New()
				var got []api.Raw
				e := api.OK
				for at := 0; at < len(all); at += size {
					f.Feed(all[at:min(at+size, len(all))])
					if eager {
						var l []api.Raw
						l, e = drain(f)
						got = append(got, l...)
					}
				}
				l, last := drain(f)
				got = append(got, l...)
				if !reflect.DeepEqual(got, want) || last != wantE || eager && e != wantE || f.Waits() != whole.Waits() || f.Taken() != whole.Taken() || f.Dead() != whole.Dead() {
					t.Errorf("in chunks of %d: %v %d, want %v %d", size, got, last, want, wantE)
				}
			}
		}
	}
}
