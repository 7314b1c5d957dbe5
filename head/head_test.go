package head

import (
	"bytes"
	"math"
	"testing"

	"crier/api"
)

// flagsMay says, from the document's words, whether a kind's flags may be.
func flagsMay(kind, flags int) bool {
	switch kind {
	case api.PPublish:
		qos := flags >> 1 & 3
		return flags >= 0 && flags <= 15 && qos != 3 && (flags&8 == 0 || qos != 0)
	case api.PPubrel, api.PSubscribe, api.PUnsubscribe:
		return flags == 2
	}
	return flags == 0
}

func TestRight(t *testing.T) {
	for _, kind := range []int{math.MinInt, -1, 0, 15, 16, math.MaxInt} {
		for _, flags := range []int{0, 2, 99} {
			if e := Right(kind, flags); e != api.ErrKind {
				t.Errorf("Right(%d, %d): %d", kind, flags, e)
			}
		}
	}
	for kind := 1; kind <= 14; kind++ {
		for _, flags := range []int{math.MinInt, -1, 0, 1, 2, 3, 4, 5, 6, 7, 8, 9, 10, 11, 12, 13, 14, 15, 16, 18, 64, 1 << 20, math.MaxInt} {
			want := api.ErrFlags
			if flagsMay(kind, flags) {
				want = api.OK
			}
			if e := Right(kind, flags); e != want {
				t.Errorf("Right(%d, %d): %d, want %d", kind, flags, e, want)
			}
		}
	}
}

func TestPut(t *testing.T) {
	for _, x := range []struct {
		h api.Head
		b []byte
		e api.Errno
	}{
		{api.Head{Kind: api.PPingreq}, []byte{0xC0, 0}, 0}, {api.Head{Kind: api.PPublish, Flags: 2, Len: 300}, []byte{0x32, 0xAC, 2}, 0},
		{api.Head{Kind: api.PConnect, Len: 127}, []byte{0x10, 127}, 0}, {api.Head{Kind: api.PSubscribe, Flags: 2, Len: 128}, []byte{0x82, 0x80, 1}, 0}, {api.Head{Kind: api.PConnect, Len: 4096}, []byte{0x10, 0x80, 0x20}, 0},
		{api.Head{Kind: 0, Flags: 9, Len: -1}, nil, api.ErrKind}, {api.Head{Kind: 15}, nil, api.ErrKind}, {api.Head{Kind: api.PSubscribe, Len: -1}, nil, api.ErrFlags}, {api.Head{Kind: api.PPublish, Flags: 6}, nil, api.ErrFlags},
		{api.Head{Kind: api.PConnect, Len: 4097}, nil, api.ErrLong}, {api.Head{Kind: api.PConnect, Len: -1}, nil, api.ErrLong}, {api.Head{Kind: api.PConnect, Len: math.MinInt}, nil, api.ErrLong}, {api.Head{Kind: api.PConnect, Len: math.MaxInt}, nil, api.ErrLong},
	} {
		if b, e := Put(x.h); !bytes.Equal(b, x.b) || e != x.e {
			t.Errorf("Put(%v): %x %d", x.h, b, e)
		}
	}
}

func TestGetWrong(t *testing.T) {
	for _, x := range []struct {
		b  string
		at int
		e  api.Errno
	}{
		{"", 0, api.ErrShort}, {"", 1, api.ErrArg}, {"\xc0\x00", -1, api.ErrArg}, {"\xc0\x00", 3, api.ErrArg}, {"\xc0\x00", math.MaxInt, api.ErrArg}, {"\xc0\x00", math.MinInt, api.ErrArg}, {"\xc0\x00", 2, api.ErrShort},
		{"\x00", 0, api.ErrKind}, {"\xf0", 0, api.ErrKind}, {"\xc1", 0, api.ErrFlags}, {"\x36", 0, api.ErrFlags}, {"\x38\xff\xff\xff\xff", 0, api.ErrFlags}, {"\x80\x00", 0, api.ErrFlags},
		{"\xc0", 0, api.ErrShort}, {"\xc0\x80", 0, api.ErrShort}, {"\xc0\xff\xff", 0, api.ErrShort}, {"\xc0\xff\xff\xff", 0, api.ErrShort},
		{"\xc0\xff\xff\xff\xff", 0, api.ErrLong}, {"\xc0\x80\x80\x80\x80\x00", 0, api.ErrLong}, {"\xc0\x81\x20", 0, api.ErrLong}, {"\xc0\xff\xff\x7f", 0, api.ErrLong}, {"\xc0\x80\x80\x80\x01", 0, api.ErrLong},
	} {
		if h, at, e := Get([]byte(x.b), x.at); h != (api.Head{}) || at != 0 || e != x.e {
			t.Errorf("Get(%x, %d): %v %d %d, want %d", x.b, x.at, h, at, e, x.e)
		}
	}
}

func TestWhatWasPutIsGot(t *testing.T) {
	for kind := 1; kind <= 14; kind++ {
		for flags := range 16 {
			if !flagsMay(kind, flags) {
				continue
			}
			for _, n := range []int{0, 1, 127, 128, 300, 4095, 4096} {
				h := api.Head{Kind: kind, Flags: flags, Len: n}
				b, e := Put(h)
				if e != api.OK {
					t.Fatalf("Put(%v): %d", h, e)
				}
				b = append(append([]byte{9, 9}, b...), 0xff, 0)
				if got, at, e := Get(b, 2); got != h || at != len(b)-2 || e != api.OK {
					t.Errorf("%v: %v %d %d", h, got, at, e)
				}
			}
		}
	}
	for _, b := range []string{"\xc0\x85\x00", "\xc0\x85\x80\x00", "\xc0\x85\x80\x80\x00"} { // more bytes than it needs
		if h, at, e := Get([]byte(b), 0); h != (api.Head{Kind: api.PPingreq, Len: 5}) || at != len(b) || e != api.OK {
			t.Errorf("Get(%x): %v %d %d", b, h, at, e)
		}
	}
}

func TestPublishTold(t *testing.T) {
	seen := map[int]bool{}
	for _, dup := range []bool{false, true} {
		for _, retain := range []bool{false, true} {
			for _, qos := range []int{math.MinInt, -1, 0, 1, 2, 3, 4, math.MaxInt} {
				want := -1
				if qos >= 0 && qos <= 2 && !(dup && qos == 0) {
					want = 2 * qos
					if dup {
						want += 8
					}
					if retain {
						want++
					}
					seen[want] = true
					if d, q, r := Told(want); d != dup || q != qos || r != retain {
						t.Errorf("Told(%d): %v %d %v", want, d, q, r)
					}
				}
				if got := Publish(dup, qos, retain); got != want {
					t.Errorf("Publish(%v, %d, %v): %d, want %d", dup, qos, retain, got, want)
				}
			}
		}
	}
	for _, flags := range []int{math.MinInt, -1, 6, 7, 8, 9, 14, 15, 16, 18, 64, math.MaxInt} {
		if d, q, r := Told(flags); d || q != 0 || r {
			t.Errorf("Told(%d): %v %d %v", flags, d, q, r)
		}
	}
	if len(seen) != 10 {
		t.Errorf("%d values of flags", len(seen))
	}
}
