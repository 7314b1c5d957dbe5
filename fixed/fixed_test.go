package fixed

import (
	"bytes"
	"math"
	"testing"

	"crier/api"
)

func TestPut(t *testing.T) {
	for _, x := range []struct {
		n uint32
		b []byte
	}{{0, []byte{0, 0, 0, 0}}, {258, []byte{2, 1, 0, 0}}, {0x01020304, []byte{4, 3, 2, 1}}, {math.MaxUint32, []byte{255, 255, 255, 255}}} {
		if b := Put4(x.n); !bytes.Equal(b, x.b) {
			t.Errorf("Put4(%d): %v", x.n, b)
		}
	}
	for _, x := range []struct {
		n uint64
		b []byte
	}{{0, make([]byte, 8)}, {258, []byte{2, 1, 0, 0, 0, 0, 0, 0}}, {0x0102030405060708, []byte{8, 7, 6, 5, 4, 3, 2, 1}}, {1 << 63, []byte{0, 0, 0, 0, 0, 0, 0, 128}}} {
		if b := Put8(x.n); !bytes.Equal(b, x.b) {
			t.Errorf("Put8(%d): %v", x.n, b)
		}
	}
}

func TestGetWrong(t *testing.T) {
	b := make([]byte, 9)
	for i := range b {
		b[i] = byte(i + 1)
	}
	for at := -1; at <= 10; at++ {
		want := func(width int) api.Errno {
			switch {
			case at < 0 || at > len(b):
				return api.ErrArg
			case at+width > len(b):
				return api.ErrShort
			}
			return api.OK
		}
		n4, to4, e4 := Get4(b, at)
		if e4 != want(4) || e4 != api.OK && (n4 != 0 || to4 != 0) {
			t.Errorf("Get4 at %d: %d %d %d", at, n4, to4, e4)
		}
		n8, to8, e8 := Get8(b, at)
		if e8 != want(8) || e8 != api.OK && (n8 != 0 || to8 != 0) {
			t.Errorf("Get8 at %d: %d %d %d", at, n8, to8, e8)
		}
	}
	for _, at := range []int{math.MinInt, math.MaxInt, math.MaxInt - 3} {
		if _, _, e := Get4(b, at); e != api.ErrArg {
			t.Errorf("Get4 at %d: %d", at, e)
		}
		if _, _, e := Get8(b, at); e != api.ErrArg {
			t.Errorf("Get8 at %d: %d", at, e)
		}
	}
	if _, _, e := Get4(nil, 0); e != api.ErrShort {
		t.Errorf("Get4 of nothing: %d", e)
	}
	if _, _, e := Get8(nil, 0); e != api.ErrShort {
		t.Errorf("Get8 of nothing: %d", e)
	}
}

func TestWhatWasPutIsGot(t *testing.T) {
	for _, n := range []uint64{0, 1, 258, 1<<32 - 1, 1 << 32, 0x0102030405060708, 1<<63 + 5, math.MaxUint64} {
		b := append(append([]byte{7}, Put8(n)...), 9)
		if m, at, e := Get8(b, 1); m != n || at != 9 || e != api.OK {
			t.Errorf("Get8: %d %d %d, want %d", m, at, e, n)
		}
		low, at, e := Get4(b, 1)
		high, end, f := Get4(b, at)
		if low != uint32(n) || high != uint32(n>>32) || at != 5 || end != 9 || e != api.OK || f != api.OK {
			t.Errorf("two halves of %x: %x %x, at %d %d", n, low, high, at, end)
		}
		if !bytes.Equal(Put8(n), append(Put4(low), Put4(high)...)) {
			t.Errorf("%x is not two numbers of four bytes", n)
		}
	}
}

func TestTurn(t *testing.T) {
	b := []byte{1, 2, 3}
	if c := Turn(b); !bytes.Equal(c, []byte{3, 2, 1}) || !bytes.Equal(b, []byte{1, 2, 3}) {
		t.Errorf("Turn: %v of %v", c, b)
	}
	c := Turn(b)
	c[0] = 99
	if b[2] != 3 {
		t.Error("what was answered shares bytes with what was handed in")
	}
	for _, x := range [][]byte{nil, {}, {5}, {1, 2}, Put8(1 << 40)} {
		if y := Turn(Turn(x)); !bytes.Equal(x, y) || len(Turn(x)) != len(x) {
			t.Errorf("turned twice %v is %v", x, y)
		}
	}
	if n, _, _ := Get4(Turn([]byte{0, 0, 1, 2}), 0); n != 258 {
		t.Errorf("turned bytes tell %d", n)
	}
}
