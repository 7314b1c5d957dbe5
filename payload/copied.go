package payload

import (
	"slices"

	"crier/api"
)

// copied answers a metric that shares no list with m.
func copied(m api.Metric) api.Metric {
	m.Meta = slices.Clone(m.Meta)
	m.Props = each(m.Props, copiedProp)
	m.Set = each(m.Set, copiedSet)
	m.Templ = each(m.Templ, copiedTemplate)
	return m
}

func copiedProp(p api.Prop) api.Prop {
	p.Sub = each(p.Sub, copiedProp)
	return p
}

func copiedSet(d api.DataSet) api.DataSet {
	d.Cols = slices.Clone(d.Cols)
	d.Types = slices.Clone(d.Types)
	d.Rows = each(d.Rows, func(row []api.Value) []api.Value { return slices.Clone(row) })
	return d
}

func copiedTemplate(t api.Template) api.Template {
	t.Params = slices.Clone(t.Params)
	t.Metrics = each(t.Metrics, copied)
	return t
}

func each[T any](l []T, anew func(T) T) []T {
	var all []T
	for _, x := range l {
		all = append(all, anew(x))
	}
	return all
}
