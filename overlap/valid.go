package overlap

import "zoneworks/api"

// valid returns whether a zone is.
func valid(z api.Zone) bool {
	if z.Plates < 1 || z.Plates > api.ZonePlates || len(z.Overlaps) > api.ZoneOverlaps {
		return false
	}
	for _, o := range z.Overlaps {
		if !isPlate(z, o.First) || !isPlate(z, o.Second) || o.First == o.Second {
			return false
		}
		if !isWithin(api.ZoneReach, o.East, o.North) {
			return false
		}
	}
	var fixed set
	for _, f := range z.Fixed {
		if !isPlate(z, f.Plate) || fixed.has(f.Plate) || !isWithin(api.ZoneReach, f.East, f.North) {
			return false
		}
		fixed = fixed.with(f.Plate)
	}
	return true
}

// isPlate returns whether a zone has a plate of that number.
func isPlate(z api.Zone, plate int) bool {
	return 0 <= plate && plate < z.Plates
}

// isWithin returns whether all numbers are at most so far from 0.
func isWithin(reach int, numbers ...int) bool {
	for _, n := range numbers {
		if n < -reach || n > reach {
			return false
		}
	}
	return true
}
