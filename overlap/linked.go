package overlap

import (
	"slices"

	"zoneworks/api"
)

// linked returns the plates that are linked with one another, by the least of them.
func linked(z api.Zone) map[int][]int {
	groups := map[int][]int{}
	least := make([]int, z.Plates)
	for plate := range least {
		least[plate] = plate
		groups[plate] = []int{plate}
	}
	for _, o := range z.Overlaps {
		stays, goes := min(least[o.First], least[o.Second]), max(least[o.First], least[o.Second])
		if stays == goes {
			continue
		}
		for _, plate := range groups[goes] {
			least[plate] = stays
		}
		groups[stays] = append(groups[stays], groups[goes]...)
		delete(groups, goes)
	}
	return groups
}

// anchored returns what corrections have in common that are allowed and anchored: those of the plates that are Fixed, and
// twice 0 of the least one of plates that are linked with one another, if none of them is Fixed.
func anchored(z api.Zone) []api.Fix {
	var fixed set
	for _, f := range z.Fixed {
		fixed = fixed.with(f.Plate)
	}
	list := make([]api.Fix, len(z.Fixed))
	copy(list, z.Fixed)
	groups := linked(z)
	for least := range z.Plates {
		if group, ok := groups[least]; ok && !slices.ContainsFunc(group, fixed.has) {
			list = append(list, api.Fix{Plate: least})
		}
	}
	return list
}
