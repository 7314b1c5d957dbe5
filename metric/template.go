package metric

import (
	"crier/api"
	"crier/value"
	"crier/wire"
)

const (
	tVersion = 1
	tMetric  = 2
	tParam   = 3
	tRef     = 4
	tDef     = 5
	pName    = 1
	pType    = 2
	pPlain   = 3 // a parameter's value stands from here on
)

var templateShapes = [...]shape{
	tVersion: {true, api.KText, 0}, tMetric: {true, api.KText, 0}, tParam: {true, api.KText, 0},
	tRef: {true, api.KText, 0}, tDef: {true, api.KVar, 1},
}

var paramShapes = [...]shape{pName: {true, api.KText, 0}, pType: {true, api.KVar, max32}}

// template is a template as it is laid, and read.
type template api.Template

func (t template) fields(deep int) ([]api.Field, api.Errno) {
	if len(t.Metrics) > api.MaxMetrics || len(t.Params) > api.MaxProps {
		return nil, api.ErrFull
	}
	var inner []metric
	for _, m := range t.Metrics {
		inner = append(inner, metric(m))
	}
	metrics, e := layAll(tMetric, inner, deep)
	if e != api.OK {
		return nil, e
	}
	var aside []param
	for _, p := range t.Params {
		aside = append(aside, param(p))
	}
	params, e := layAll(tParam, aside, deep)
	if e != api.OK {
		return nil, e
	}
	l := append(told(text(tVersion, t.Version)), metrics...)
	l = append(l, params...)
	return append(l, told(text(tRef, t.Ref), number(tDef, bit(t.Def)))...), api.OK
}

func (t *template) take(l []api.Field, deep int) api.Errno {
	for _, f := range l {
		if f.Num > tDef {
			continue
		}
		if e := templateShapes[f.Num].right(f); e != api.OK {
			return e
		}
		switch f.Num {
		case tVersion:
			t.Version = f.Text
		case tRef:
			t.Ref = f.Text
		case tDef:
			t.Def = f.Val == 1
		}
	}
	metrics, params := wire.All(l, tMetric), wire.All(l, tParam)
	if len(metrics) > api.MaxMetrics || len(params) > api.MaxProps {
		return api.ErrFull
	}
	for _, f := range metrics {
		m, e := read([]byte(f.Text), deep)
		if e != api.OK {
			return e
		}
		t.Metrics = append(t.Metrics, m)
	}
	for _, f := range params {
		var p param
		if e := fill(&p, []byte(f.Text), deep); e != api.OK {
			return e
		}
		t.Params = append(t.Params, api.Param(p))
	}
	return api.OK
}

// param is a parameter as it is laid, and read; how deep it stands plays no part.
type param api.Param

func (p param) fields(int) ([]api.Field, api.Errno) {
	v, e := value.Put(p.V, pPlain, false)
	return append(told(text(pName, p.Name), number(pType, uint64(p.Type))), v...), e
}

func (p *param) take(l []api.Field, _ int) api.Errno {
	for _, f := range l {
		if f.Num > pType {
			continue
		}
		if e := paramShapes[f.Num].right(f); e != api.OK {
			return e
		}
		if f.Num == pName {
			p.Name = f.Text
		} else {
			p.Type = uint32(f.Val)
		}
	}
	var e api.Errno
	p.V, e = value.Of(l, pPlain, false)
	return e
}

// PutTemplate lays a template, whose metrics are 1 deep.
func PutTemplate(t api.Template) ([]byte, api.Errno) { return lay(template(t), 1) }

// OfTemplate reads a template, whose metrics are 1 deep.
func OfTemplate(b []byte) (api.Template, api.Errno) {
	var t template
	if e := fill(&t, b, 1); e != api.OK {
		return api.Template{}, e
	}
	return api.Template(t), api.OK
}
