package plate

import "cmp"

// kept is what is kept of all truths: the least and the greatest of what any of them has, if any of them has it.
type kept[T cmp.Ordered] struct {
	least, most T
	there       bool
}

// keep keeps what some truths have, from the least to the greatest of it; nothing if that is less.
func (k *kept[T]) keep(least, most T) {
	if !rising(least, most) {
		return
	}
	if k.there {
		least, most = min(k.least, least), max(k.most, most)
	}
	*k = kept[T]{least, most, true}
}
