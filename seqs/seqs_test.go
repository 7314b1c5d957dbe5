package seqs

import (
	"math"
	"testing"

	"crier/api"
)

func TestNextGap(t *testing.T) {
	for n, want := range map[int]int{0: 1, 1: 2, 254: 255, 255: 0, 256: 1, -1: 0, -2: 255, -256: 1, 1000: 233, math.MaxInt: 0, math.MinInt: 1} {
		if got := Next(n); got != want {
			t.Errorf("Next(%d): %d, want %d", n, got, want)
		}
	}
	for _, x := range []struct{ from, to, want int }{{0, 0, 0}, {0, 1, 1}, {1, 0, 255}, {255, 0, 1}, {254, 3, 5}, {5, 5 + 256, 0}, {-1, 0, 1}, {0, -1, 255}, {math.MinInt, math.MaxInt, 255}, {math.MaxInt, math.MinInt, 1}, {300, 200, 156}} {
		if got := Gap(x.from, x.to); got != x.want {
			t.Errorf("Gap(%d, %d): %d, want %d", x.from, x.to, got, x.want)
		}
	}
	for from := range 256 {
		for to := range 256 {
			n := from
			for range Gap(from, to) {
				n = Next(n)
			}
			if n != to {
				t.Fatalf("Gap(%d, %d): %d", from, to, Gap(from, to))
			}
		}
	}
}

func TestRow(t *testing.T) {
	r := New()
	if n, ok := r.Want(); n != 0 || ok || r.Fits(0) || r.End() {
		t.Errorf("of a new one: %d %v", n, ok)
	}
	for n, want := range map[int]api.Errno{math.MinInt: api.ErrArg, -1: api.ErrArg, 0: api.ErrNone, 255: api.ErrNone, 256: api.ErrArg, math.MaxInt: api.ErrArg} {
		if e := r.Take(n); e != want {
			t.Errorf("Take(%d) ahead of a beginning: %d", n, e)
		}
	}
	for _, n := range []int{math.MinInt, -1, 256, math.MaxInt} {
		if e := r.Begin(n); e != api.ErrArg {
			t.Errorf("Begin(%d): %d", n, e)
		}
	}
	if _, ok := r.Want(); ok {
		t.Error("what is refused changes nothing")
	}
	if e := r.Begin(254); e != api.OK || !r.Fits(255) || r.Fits(254) || r.Fits(-1) || r.Fits(511) {
		t.Errorf("Begin: %d", e)
	}
	for n, want := range map[int]api.Errno{254: api.ErrArg, 0: api.ErrArg, -1: api.ErrArg, 256: api.ErrArg, 511: api.ErrArg} {
		if e := r.Take(n); e != want {
			t.Errorf("Take(%d): %d", n, e)
		}
	}
	if n, ok := r.Want(); n != 255 || !ok {
		t.Errorf("Want: %d %v", n, ok)
	}
	if e := r.Take(255); e != api.OK || !r.Fits(0) {
		t.Errorf("Take(255): %d", e)
	}
	if e := r.Take(0); e != api.OK || !r.Fits(1) {
		t.Errorf("Take(0): %d", e)
	}
	r.Begin(9)
	if n, ok := r.Want(); n != 10 || !ok {
		t.Errorf("Want of one that began anew: %d %v", n, ok)
	}
	if !r.End() || r.End() || r.Fits(10) {
		t.Error("End")
	}
	if n, ok := r.Want(); n != 0 || ok {
		t.Errorf("Want of one that ended: %d %v", n, ok)
	}
	if e := r.Take(10); e != api.ErrNone {
		t.Errorf("Take of one that ended: %d", e)
	}
}

func TestManyTaken(t *testing.T) {
	for begin := range 256 {
		r := New()
		r.Begin(begin)
		for taken := range 600 {
			n, _ := r.Want()
			if n != (begin+1+taken)%256 {
				t.Fatalf("behind %d numbers from %d on it wants %d", taken, begin, n)
			}
			if e := r.Take(n); e != api.OK {
				t.Fatalf("Take(%d): %d", n, e)
			}
		}
	}
}

func TestNone(t *testing.T) {
	for _, r := range []*Row{nil, {}, new(Row)} {
		for _, n := range []int{0, 999} {
			if r.Begin(n) != api.ErrZero || r.Take(n) != api.ErrZero || r.Fits(n) {
				t.Error("of none: ErrZero, false")
			}
		}
		if n, ok := r.Want(); n != 0 || ok || r.End() {
			t.Errorf("Want: %d %v", n, ok)
		}
	}
}
