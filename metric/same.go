package metric

import (
	"slices"

	"crier/api"
	"crier/dataset"
	"crier/props"
)

// Same tells whether both are the same, part by part.
func Same(a, b api.Metric) bool {
	return a.Name == b.Name && a.HasAlias == b.HasAlias && a.Alias == b.Alias && a.Time == b.Time && a.Type == b.Type &&
		a.Hist == b.Hist && a.Trans == b.Trans && a.Null == b.Null && a.V == b.V &&
		slices.Equal(a.Meta, b.Meta) && props.Same(a.Props, b.Props) &&
		slices.EqualFunc(a.Set, b.Set, dataset.Same) && slices.EqualFunc(a.Templ, b.Templ, sameTemplate)
}

func sameTemplate(a, b api.Template) bool {
	return a.Version == b.Version && a.Ref == b.Ref && a.Def == b.Def &&
		slices.Equal(a.Params, b.Params) && slices.EqualFunc(a.Metrics, b.Metrics, Same)
}
