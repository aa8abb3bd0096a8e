package motifs

import "torchon/api"

// A motif is made from so many sizes.
type motif struct {
	sizes int
	sheet func(sizes []int) (api.Sheet, api.Errno)
}

// motifs returns the motifs by their names.
func motifs() map[string]motif {
	return map[string]motif{
		"plait":    {1, func(l []int) (api.Sheet, api.Errno) { return Plait(l[0]) }},
		"picot":    {1, func(l []int) (api.Sheet, api.Errno) { return Picot(l[0]) }},
		"spider":   {2, func(l []int) (api.Sheet, api.Errno) { return Spider(l[0], l[1]) }},
		"fan":      {1, func(l []int) (api.Sheet, api.Errno) { return Fan(l[0]) }},
		"footside": {2, func(l []int) (api.Sheet, api.Errno) { return Footside(l[0], l[1]) }},
		"windmill": {0, func([]int) (api.Sheet, api.Errno) { return Windmill(), api.OK }},
	}
}

// Names returns the names of the motifs.
func Names() []string {
	return []string{"plait", "picot", "spider", "fan", "footside", "windmill"}
}

// Width returns how many pairs the motif with a name and sizes has.
func Width(name string, sizes []int) (int, api.Errno) {
	s, e := Make(name, sizes)
	return s.Pairs, e
}

// Make returns the motif with a name and sizes.
func Make(name string, sizes []int) (api.Sheet, api.Errno) {
	m, found := motifs()[name]
	if !found {
		return api.Sheet{}, api.ErrNone
	}
	if len(sizes) != m.sizes {
		return api.Sheet{}, api.ErrArg
	}
	return m.sheet(sizes)
}
