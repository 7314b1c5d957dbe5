package clocks

import (
	"math"
	"slices"
	"testing"

	"crier/api"
)

func set(t *testing.T, c *Clocks, who, due int) {
	t.Helper()
	if e := c.Set(who, due); e != api.OK {
		t.Errorf("Set(%d, %d): %d", who, due, e)
	}
}

func TestSetDrop(t *testing.T) {
	c := New()
	if _, ok := c.Next(); ok || c.Len() != 0 || c.Drop(0) || len(c.Fire(math.MaxInt)) != 0 {
		t.Error("nobody comes due of a new one")
	}
	for _, x := range []struct {
		who, due int
		e        api.Errno
	}{{-1, -1, api.ErrArg}, {8, 0, api.ErrArg}, {math.MinInt, 0, api.ErrArg}, {math.MaxInt, 0, api.ErrArg}, {0, -1, api.ErrRange}, {7, math.MinInt, api.ErrRange}} {
		if e := c.Set(x.who, x.due); e != x.e || c.Len() != 0 {
			t.Errorf("Set(%d, %d): %d", x.who, x.due, e)
		}
	}
	set(t, c, 3, 10)
	set(t, c, 0, 20)
	set(t, c, 7, math.MaxInt)
	set(t, c, 3, 30)
	if due, ok := c.Due(3); due != 30 || !ok || c.Len() != 3 {
		t.Errorf("Due: %d %v", due, ok)
	}
	if due, ok := c.Next(); due != 20 || !ok {
		t.Errorf("Next: %d %v", due, ok)
	}
	for _, who := range []int{-1, 1, 8, math.MaxInt} {
		if due, ok := c.Due(who); due != 0 || ok || c.Drop(who) {
			t.Errorf("of %d: %d %v", who, due, ok)
		}
	}
	if !c.Drop(0) || c.Drop(0) || c.Len() != 2 {
		t.Error("Drop")
	}
	if due, ok := c.Next(); due != 30 || !ok {
		t.Errorf("Next: %d %v", due, ok)
	}
	if e := c.Set(3, -1); e != api.ErrRange {
		t.Errorf("Set: %d", e)
	}
	if due, _ := c.Due(3); due != 30 {
		t.Errorf("what is refused changes nothing: %d", due)
	}
}

func TestFire(t *testing.T) {
	c := New()
	set(t, c, 2, 5)
	set(t, c, 0, 5)
	set(t, c, 1, 3)
	for _, x := range []struct {
		now  int
		want []int
	}{{-1, nil}, {2, nil}, {4, []int{1}}, {4, nil}, {5, []int{0, 2}}, {math.MaxInt, nil}} {
		if got := c.Fire(x.now); !slices.Equal(got, x.want) {
			t.Errorf("Fire(%d): %v, want %v", x.now, got, x.want)
		}
	}
	for who := range api.MaxConns {
		set(t, c, who, 100-who/2)
	}
	if got := c.Fire(1000); !slices.Equal(got, []int{6, 7, 4, 5, 2, 3, 0, 1}) || c.Len() != 0 {
		t.Errorf("Fire: %v", got)
	}
	set(t, c, 4, 0)
	if got := c.Fire(0); !slices.Equal(got, []int{4}) {
		t.Errorf("Fire(0): %v", got)
	}
}

func TestLate(t *testing.T) {
	for _, x := range []struct{ last, keep, want int }{
		{10, 3, 15}, {0, 0, 1}, {0, 1, 2}, {0, 2, 4}, {7, 10, 23}, {100, 65535, 100 + 98302 + 1}, {-5, 3, 5}, {10, -3, 11}, {math.MinInt, math.MinInt, 1}, {1 << 30, 65535, 1<<30 + 98303},
		{math.MaxInt - 1, 0, math.MaxInt}, {math.MaxInt - 16, 10, math.MaxInt}, {math.MaxInt - 17, 10, math.MaxInt - 1}, {math.MaxInt - 15, 10, math.MaxInt}, {math.MaxInt, math.MaxInt, math.MaxInt}, {0, math.MaxInt, math.MaxInt},
	} {
		if got := Late(x.last, x.keep); got != x.want {
			t.Errorf("Late(%d, %d): %d, want %d", x.last, x.keep, got, x.want)
		}
	}
}

func TestNone(t *testing.T) {
	for _, c := range []*Clocks{nil, {}, new(Clocks)} {
		if e := c.Set(-1, -1); e != api.ErrZero {
			t.Errorf("Set: %d", e)
		}
		due, ok := c.Due(0)
		next, more := c.Next()
		if c.Drop(0) || due != 0 || ok || len(c.Fire(9)) != 0 || next != 0 || more || c.Len() != 0 {
			t.Error("of none: false, none, 0")
		}
	}
}

// TestPlain holds clocks against a plain list of times.
func TestPlain(t *testing.T) {
	c := New()
	var due [api.MaxConns]int
	for who := range due {
		due[who] = -1
	}
	seed := uint32(13)
	for range 5000 {
		seed = seed*1664525 + 1013904223
		who, at := int(seed>>8)%api.MaxConns, int(seed>>16)%50
		switch seed >> 30 {
		case 0:
			if c.Drop(who) != (due[who] >= 0) {
				t.Fatal("Drop")
			}
			due[who] = -1
		case 1:
			var want []int
			for now := 0; now <= at/4; now++ {
				for x := range due {
					if due[x] == now {
						want = append(want, x)
						due[x] = -1
					}
				}
			}
			if got := c.Fire(at / 4); !slices.Equal(got, want) {
				t.Fatalf("Fire: %v, want %v", got, want)
			}
		default:
			set(t, c, who, at)
			due[who] = at
		}
		least, count := -1, 0
		for x := range due {
			if d, ok := c.Due(x); ok != (due[x] >= 0) || ok && d != due[x] {
				t.Fatal("Due")
			}
			if due[x] >= 0 {
				count++
				if least < 0 || due[x] < least {
					least = due[x]
				}
			}
		}
		if next, ok := c.Next(); c.Len() != count || ok != (count > 0) || ok && next != least {
			t.Fatalf("Next: %d %v, Len: %d", next, ok, c.Len())
		}
	}
}
