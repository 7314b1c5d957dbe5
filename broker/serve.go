package broker

import (
	"strconv"

	"crier/api"
	"crier/clocks"
	"crier/match"
)

const (
	protocol = 4
	noName   = "~" // ahead of the number by which one without a name is called

	// room is what stands beside topic and text in the packet of a message with a number.
	room = 4
)

// serve serves the next packet of a connection.
func (b *Broker) serve(place int) api.Errno {
	p, ok, e := b.places[place].Next()
	if e != api.OK {
		b.drop(place)
		return e
	}
	if !ok {
		return api.OK
	}
	defer b.wind(place)
	if does := b.does(p.Kind); does != nil {
		does(place, p)
	}
	return api.OK
}

// wind sets anew when a connection comes due.
func (b *Broker) wind(place int) {
	who, came := b.places[place].Who()
	if came && who.Keep > 0 && b.isOpen(place) {
		b.clocks.Set(place, clocks.Late(b.clock, who.Keep))
	}
}

// does answers how a packet of a kind is served.
func (b *Broker) does(kind int) func(place int, p api.Packet) {
	switch kind {
	case api.PConnect:
		return b.connect
	case api.PPublish:
		return b.publish
	case api.PPuback, api.PPubrec, api.PPubcomp:
		return b.answer
	case api.PPubrel:
		return b.release
	case api.PSubscribe:
		return b.subscribe
	case api.PUnsubscribe:
		return b.unsubscribe
	case api.PPingreq:
		return b.ping
	case api.PDisconnect:
		return b.leave
	}
	return nil
}

// slot tells the slot of the session of who came on a connection, or -1, and who that is.
func (b *Broker) slot(place int) (int, string) {
	who, _ := b.places[place].Who()
	slot, ok := b.sessions.Find(who.Client)
	if !ok {
		return -1, who.Client
	}
	return slot, who.Client
}

func (b *Broker) connect(place int, p api.Packet) {
	x := p.C
	if x.Level != protocol {
		b.turnAway(place, api.CLevel)
		return
	}
	if x.Client == "" && x.Clean {
		x.Client = noName + strconv.Itoa(b.nameless)
		b.nameless++
	}
	if x.Client == "" || len(x.Client) > api.MaxId {
		b.turnAway(place, api.CId)
		return
	}
	if other, ok := b.placeOf(x.Client); ok {
		b.drop(other)
	}
	slot, on, e := b.sessions.Open(x.Client, x.Clean)
	if e != api.OK {
		b.counts.Refused++
		b.turnAway(place, api.CBusy)
		return
	}
	if !on {
		b.filters.Clear(slot)
	}
	b.places[place].Accept(x)
	b.emit(place, api.Packet{Kind: api.PConnack, Present: on})
	b.emit(place, b.sessions.At(slot).Attach()...)
}

// turnAway tells one who comes why they can't, and drops them.
func (b *Broker) turnAway(place, code int) {
	b.emit(place, api.Packet{Kind: api.PConnack, Code: code})
	b.drop(place)
}

func (b *Broker) publish(place int, p api.Packet) {
	slot, client := b.slot(place)
	switch p.M.Qos {
	case 1:
		b.emit(place, api.Packet{Kind: api.PPuback, Id: p.Id})
	case 2:
		fresh, e := b.sessions.At(slot).Come(p.Id)
		if e != api.OK {
			b.drop(place)
			return
		}
		b.emit(place, api.Packet{Kind: api.PPubrec, Id: p.Id})
		if !fresh {
			return
		}
	}
	b.accept(api.Entry{From: client, M: p.M})
}

func (b *Broker) answer(place int, p api.Packet) {
	slot, _ := b.slot(place)
	b.emit(place, b.sessions.At(slot).Answer(p.Kind, p.Id)...)
}

func (b *Broker) release(place int, p api.Packet) {
	slot, _ := b.slot(place)
	b.sessions.At(slot).Done(p.Id)
	b.emit(place, api.Packet{Kind: api.PPubcomp, Id: p.Id})
}

func (b *Broker) subscribe(place int, p api.Packet) {
	slot, _ := b.slot(place)
	var added []api.Filter
	var codes []int
	for _, f := range p.Filters {
		code := f.Qos
		if _, e := b.filters.Add(slot, f); e != api.OK {
			code = api.SubFailed
		} else {
			added = append(added, f)
		}
		codes = append(codes, code)
	}
	b.emit(place, api.Packet{Kind: api.PSuback, Id: p.Id, Codes: codes})
	for _, f := range added {
		for _, m := range b.stays.Find(f.Text) {
			if !b.deliver(slot, m, f.Qos) {
				b.counts.Drops++
			}
		}
	}
	b.tellBirths(slot, added)
}

// tellBirths brings to who comes late the births that these filters want; where there is no room the rest is left.
func (b *Broker) tellBirths(slot int, filters []api.Filter) {
	l := b.spark.Births(filters)
	for i, x := range l {
		m := api.Msg{Topic: x.Topic, Text: x.Text, Qos: 1}
		if len(x.Topic)+len(x.Text) > api.MaxRemain-room {
			m.Qos = 0
		}
		if !b.deliver(slot, m, greatest(filters, x.Topic)) {
			b.counts.Cut += len(l) - i
			return
		}
	}
}

// greatest tells the greatest Qos of the filters that want a name.
func greatest(filters []api.Filter, name string) int {
	qos := 0
	for _, f := range filters {
		if match.Match(f.Text, name) {
			qos = max(qos, f.Qos)
		}
	}
	return qos
}

func (b *Broker) unsubscribe(place int, p api.Packet) {
	slot, _ := b.slot(place)
	for _, f := range p.Filters {
		b.filters.Drop(slot, f.Text)
	}
	b.emit(place, api.Packet{Kind: api.PUnsuback, Id: p.Id})
}

func (b *Broker) ping(place int, _ api.Packet) {
	b.emit(place, api.Packet{Kind: api.PPingresp})
}

func (b *Broker) leave(place int, _ api.Packet) {
	b.places[place].Forget()
	b.drop(place)
}
