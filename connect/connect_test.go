package connect

import (
	"math"
	"strings"
	"testing"

	"crier/api"
)

func simple() api.Connect { return api.Connect{Level: 4, Clean: true, Keep: 10, Client: "a"} }

func full() api.Connect {
	return api.Connect{
		Level: 4, Keep: 65535, Client: "c", HasWill: true, Will: api.Msg{Topic: "t/#", Text: "\x00\xff", Qos: 2, Retain: true},
		HasUser: true, User: "u", HasPass: true, Pass: "\x00p",
	}
}

func TestPut(t *testing.T) {
	for _, x := range []struct {
		c api.Connect
		b string
	}{
		{simple(), "\x00\x04MQTT\x04\x02\x00\x0a\x00\x01a"},
		{api.Connect{Level: 4}, "\x00\x04MQTT\x04\x00\x00\x00\x00\x00"},
		{full(), "\x00\x04MQTT\x04\xf4\xff\xff\x00\x01c\x00\x03t/#\x00\x02\x00\xff\x00\x01u\x00\x02\x00p"},
		{api.Connect{Level: 4, HasWill: true, Will: api.Msg{Qos: 1}}, "\x00\x04MQTT\x04\x0c\x00\x00\x00\x00\x00\x00\x00\x00"},
		{api.Connect{Level: 4, HasUser: true}, "\x00\x04MQTT\x04\x80\x00\x00\x00\x00\x00\x00"},
	} {
		if b, e := Put(x.c); string(b) != x.b || e != api.OK {
			t.Errorf("Put(%v): %x %d", x.c, b, e)
		}
	}
}

func TestPutWrong(t *testing.T) {
	long := strings.Repeat("x", 65536)
	for name, x := range map[string]struct {
		change func(c *api.Connect)
		e      api.Errno
	}{
		"level":               {func(c *api.Connect) { c.Level, c.Keep = 3, -1 }, api.ErrProto},
		"level 0":             {func(c *api.Connect) { c.Level = 0 }, api.ErrProto},
		"keep":                {func(c *api.Connect) { c.Keep, c.Will.Qos = -1, 3 }, api.ErrArg},
		"great keep":          {func(c *api.Connect) { c.Keep, c.HasUser = 65536, false }, api.ErrArg},
		"will's Qos":          {func(c *api.Connect) { c.Will.Qos, c.HasWill = 3, false }, api.ErrFlags},
		"will's low Qos":      {func(c *api.Connect) { c.Will.Qos = math.MinInt }, api.ErrFlags},
		"pass without user":   {func(c *api.Connect) { c.HasUser = false }, api.ErrFlags},
		"will without will":   {func(c *api.Connect) { c.HasWill = false }, api.ErrForm},
		"Qos without will":    {func(c *api.Connect) { c.HasWill, c.Will = false, api.Msg{Qos: 1} }, api.ErrForm},
		"retain without will": {func(c *api.Connect) { c.HasWill, c.Will = false, api.Msg{Retain: true} }, api.ErrForm},
		"user without user":   {func(c *api.Connect) { c.HasUser, c.HasPass, c.Pass, c.Client = false, false, "", "\x00" }, api.ErrForm},
		"pass without pass":   {func(c *api.Connect) { c.HasPass = false }, api.ErrForm},
		"client":              {func(c *api.Connect) { c.Client, c.User = "\x00", long }, api.ErrUtf},
		"will's topic":        {func(c *api.Connect) { c.Will.Topic, c.Will.Text = "\xff", long }, api.ErrUtf},
		"will's text":         {func(c *api.Connect) { c.Will.Text, c.User = long, "\xff" }, api.ErrLong},
		"user":                {func(c *api.Connect) { c.User, c.Pass = "\xff", long }, api.ErrUtf},
		"pass":                {func(c *api.Connect) { c.Pass = long }, api.ErrLong},
		"in all":              {func(c *api.Connect) { c.Pass = long[:4096] }, api.ErrLong},
	} {
		c := full()
		x.change(&c)
		if b, e := Put(c); b != nil || e != x.e {
			t.Errorf("%s: %d bytes, %d, want %d", name, len(b), e, x.e)
		}
	}
	c := simple()
	c.Client = long[:4096-12]
	if b, e := Put(c); len(b) != 4096 || e != api.OK {
		t.Errorf("as many bytes as there may be: %d %d", len(b), e)
	}
	c.Client += "x"
	if b, e := Put(c); b != nil || e != api.ErrLong {
		t.Errorf("one more: %d %d", len(b), e)
	}
}

func TestOf(t *testing.T) {
	for _, b := range []string{"\x00\x04MQTT\x03", "\x00\x04MQTT\x03\xff\xff", "\x00\x04MQTT\x05\x02"} {
		if c, e := Of(b); c != (api.Connect{Level: int(b[6])}) || e != api.OK {
			t.Errorf("of another level: %v %d", c, e)
		}
	}
	if c, e := Of("\x00\x04MQTT\x00"); c != (api.Connect{}) || e != api.OK {
		t.Errorf("of the level 0: %v %d", c, e)
	}
	const head = "\x00\x04MQTT\x04"
	for _, x := range []struct {
		b string
		e api.Errno
	}{
		{"", api.ErrShort}, {"\x00", api.ErrShort}, {"\x00\x04MQT", api.ErrShort}, {"\x00\x01\x00", api.ErrUtf}, {"\x00\x04MQIs\x04", api.ErrProto}, {"\x00\x06MQIsdp\x03", api.ErrProto}, {"\x00\x00", api.ErrProto}, {"\x00\x04mqtt\x04", api.ErrProto},
		{"\x00\x04MQTT", api.ErrShort}, {head, api.ErrShort},
		{head + "\x01", api.ErrFlags}, {head + "\x03\x00\x0a\x00\x01a", api.ErrFlags}, {head + "\x08", api.ErrFlags}, {head + "\x10", api.ErrFlags}, {head + "\x20", api.ErrFlags}, {head + "\x1c", api.ErrFlags}, {head + "\x40", api.ErrFlags},
		{head + "\x02", api.ErrShort}, {head + "\x02\x00", api.ErrShort}, {head + "\x02\x00\x0a", api.ErrShort}, {head + "\x02\x00\x0a\x00\x01", api.ErrShort}, {head + "\x02\x00\x0a\x00\x01\x00", api.ErrUtf},
		{head + "\x02\x00\x0a\x00\x01ab", api.ErrForm},
		{head + "\x06\x00\x0a\x00\x01a", api.ErrShort}, {head + "\x06\x00\x0a\x00\x01a\x00\x01\xff\x00", api.ErrUtf}, {head + "\x06\x00\x0a\x00\x01a\x00\x01t\x00", api.ErrShort}, {head + "\x06\x00\x0a\x00\x01a\x00\x01t\x00\x00x", api.ErrForm},
		{head + "\x82\x00\x0a\x00\x01a", api.ErrShort}, {head + "\x82\x00\x0a\x00\x01a\x00\x01\x00", api.ErrUtf}, {head + "\xc2\x00\x0a\x00\x01a\x00\x00", api.ErrShort}, {head + "\xc2\x00\x0a\x00\x01a\x00\x00\x00\x02x", api.ErrShort},
	} {
		if c, e := Of(x.b); c != (api.Connect{}) || e != x.e {
			t.Errorf("Of(%x): %v %d, want %d", x.b, c, e, x.e)
		}
	}
	b, _ := Put(full())
	for cut := range len(b) {
		if c, e := Of(string(b[:cut])); c != (api.Connect{}) || e != api.ErrShort {
			t.Errorf("cut at %d: %v %d", cut, c, e)
		}
	}
}

func TestWhatWasPutIsTold(t *testing.T) {
	l := []api.Connect{simple(), full(), {Level: 4}, {Level: 4, HasUser: true, User: "u"}, {Level: 4, HasUser: true, HasPass: true}, {Level: 4, HasWill: true}}
	for qos := range 3 {
		l = append(l, api.Connect{Level: 4, Clean: true, HasWill: true, Will: api.Msg{Topic: "w", Qos: qos}}, api.Connect{Level: 4, HasWill: true, Will: api.Msg{Text: "w", Qos: qos, Retain: true}})
	}
	for _, c := range l {
		b, e := Put(c)
		if e != api.OK {
			t.Fatalf("Put(%v): %d", c, e)
		}
		if got, e := Of(string(b)); got != c || e != api.OK {
			t.Errorf("%v: %v %d", c, got, e)
		}
	}
}

func TestAck(t *testing.T) {
	for _, present := range []bool{false, true} {
		for _, code := range []int{math.MinInt, -1, 0, 1, 2, 3, 4, 5, 6, 256, math.MaxInt} {
			want := api.OK
			if code < 0 || code > 5 {
				want = api.ErrArg
			} else if present && code != 0 {
				want = api.ErrForm
			}
			b, e := PutAck(present, code)
			if e != want || e != api.OK && b != nil {
				t.Errorf("PutAck(%v, %d): %x %d", present, code, b, e)
			}
			if e == api.OK {
				if p, c, e := OfAck(string(b)); len(b) != 2 || p != present || c != code || e != api.OK {
					t.Errorf("OfAck(%x): %v %d %d", b, p, c, e)
				}
			}
		}
	}
	if b, _ := PutAck(true, 0); string(b) != "\x01\x00" {
		t.Errorf("PutAck: %x", b)
	}
	if b, _ := PutAck(false, 5); string(b) != "\x00\x05" {
		t.Errorf("PutAck: %x", b)
	}
	for b, want := range map[string]api.Errno{"": api.ErrForm, "\x00": api.ErrForm, "\x00\x00\x00": api.ErrForm, "\x02\x00": api.ErrForm, "\x02\x06": api.ErrForm, "\x00\x06": api.ErrArg, "\x01\xff": api.ErrArg, "\x01\x01": api.ErrForm} {
		if p, c, e := OfAck(b); p || c != 0 || e != want {
			t.Errorf("OfAck(%x): %v %d %d, want %d", b, p, c, e, want)
		}
	}
}
