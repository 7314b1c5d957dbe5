package varint

import (
	"bytes"
	"math"
	"testing"

	"crier/api"
)

// edges are the numbers around each change of width.
func edges() []uint64 {
	l := []uint64{0, 1, 300, math.MaxUint64, math.MaxUint64 - 1}
	for i := 7; i < 64; i += 7 {
		l = append(l, 1<<i-1, 1<<i, 1<<i+1)
	}
	return l
}

func TestPut(t *testing.T) {
	for _, x := range []struct {
		n uint64
		b []byte
	}{
		{0, []byte{0}}, {1, []byte{1}}, {127, []byte{127}}, {128, []byte{0x80, 1}}, {300, []byte{0xAC, 2}},
		{16383, []byte{0xff, 0x7f}}, {16384, []byte{0x80, 0x80, 1}},
		{math.MaxUint64, []byte{255, 255, 255, 255, 255, 255, 255, 255, 255, 1}},
		{1 << 63, []byte{128, 128, 128, 128, 128, 128, 128, 128, 128, 1}},
	} {
		if b := Put(x.n); !bytes.Equal(b, x.b) {
			t.Errorf("Put(%d): %v", x.n, b)
		}
	}
}

func TestSize(t *testing.T) {
	for _, n := range edges() {
		want := 1
		for m := n; m >= 128; m >>= 7 {
			want++
		}
		if Size(n) != want || len(Put(n)) != want {
			t.Errorf("Size(%d): %d, put %d, want %d", n, Size(n), len(Put(n)), want)
		}
	}
}

func TestGetWrong(t *testing.T) {
	nine := bytes.Repeat([]byte{128}, 9)
	for _, x := range []struct {
		b  []byte
		at int
		e  api.Errno
	}{
		{nil, 0, api.ErrShort}, {nil, 1, api.ErrArg}, {nil, -1, api.ErrArg}, {[]byte{1}, 1, api.ErrShort}, {[]byte{1}, 2, api.ErrArg},
		{[]byte{1}, math.MaxInt, api.ErrArg}, {[]byte{1}, math.MinInt, api.ErrArg},
		{[]byte{128}, 0, api.ErrShort}, {nine, 0, api.ErrShort},
		{append(bytes.Clone(nine), 2), 0, api.ErrLong}, {append(bytes.Clone(nine), 128), 0, api.ErrLong},
		{append(bytes.Clone(nine), 129, 0), 0, api.ErrLong}, {append(bytes.Clone(nine), 255, 1), 0, api.ErrLong},
	} {
		if n, at, e := Get(x.b, x.at); n != 0 || at != 0 || e != x.e {
			t.Errorf("Get(%v, %d): %d %d %d, want %d", x.b, x.at, n, at, e, x.e)
		}
	}
}

func TestWhatWasPutIsGot(t *testing.T) {
	for _, n := range edges() {
		for _, behind := range [][]byte{nil, {0}, {255}, {1, 2, 3}} {
			b := append(append([]byte{200, 9}, Put(n)...), behind...)
			if m, at, e := Get(b, 2); m != n || at != 2+Size(n) || e != api.OK {
				t.Errorf("Get(%v): %d %d %d, want %d", b, m, at, e, n)
			}
		}
	}
}

func TestNeedlessBytes(t *testing.T) {
	for _, n := range edges() {
		b := Put(n)
		for len(b) < api.MaxVarint {
			b[len(b)-1] |= 128
			b = append(b, 0)
			if m, at, e := Get(b, 0); m != n || at != len(b) || e != api.OK {
				t.Errorf("Get(%v): %d %d %d, want %d", b, m, at, e, n)
			}
		}
	}
}

func TestZigZag(t *testing.T) {
	for _, x := range []struct {
		n int64
		z uint64
	}{
		{0, 0}, {-1, 1}, {1, 2}, {-2, 3}, {2, 4}, {150, 300},
		{math.MaxInt64, math.MaxUint64 - 1}, {math.MinInt64, math.MaxUint64}, {math.MinInt64 + 1, math.MaxUint64 - 2},
	} {
		if Zig(x.n) != x.z || Zag(x.z) != x.n {
			t.Errorf("%d: Zig %d, Zag of %d: %d", x.n, Zig(x.n), x.z, Zag(x.z))
		}
	}
}
