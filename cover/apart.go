package cover

// stack is things of which the last one that came is the first one that goes.
type stack[T any] struct{ things []T }

// push puts a thing on a stack.
func (s *stack[T]) push(thing T) {
	s.things = append(s.things, thing)
}

// pop takes the last thing from a stack that has some.
func (s *stack[T]) pop() T {
	last := len(s.things) - 1
	thing := s.things[last]
	s.things = s.things[:last]
	return thing
}

// rooms returns, for each set of plates, how many places that are apart there are, at most, that no other plate of use has;
// each place has to be on some plate.
func (s survey) rooms() []int {
	rooms := make([]int, s.all()+1)
	for free := range s.all() + 1 {
		for _, a := range s.asked {
			if a.of.isIn(free) {
				rooms[free] = max(rooms[free], rooms[free.without(a.of)]+1)
			}
		}
	}
	return rooms
}

// apart returns as many places that are apart as can be, of several such lists the first one; it refuses a field of which
// there is no list. Places that ask the same are never apart, so the first one of them is enough.
func (s survey) apart() []alike {
	s.insistList()
	rooms, free := s.rooms(), s.all()
	var kept stack[alike]
	for _, a := range s.asked {
		if !a.of.isIn(free) {
			continue
		}
		kept.push(a)
		free = free.without(a.of)
		// No longest list of places has this one and those before it, so it goes again. rooms counts such places, too; but
		// as no longest list has them, that makes no difference.
		if len(kept.things)+rooms[free] < rooms[s.all()] {
			gone := kept.pop()
			free = free.with(gone.of)
		}
	}
	return kept.things
}
