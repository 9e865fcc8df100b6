// Package calls_test holds the packages of all layers against the calls that the chapters list.
package calls_test

import (
	"testing"

	"zoneworks/api"
	"zoneworks/blink"
	"zoneworks/book"
	"zoneworks/border"
	"zoneworks/chain"
	"zoneworks/cover"
	"zoneworks/eye"
	"zoneworks/image"
	"zoneworks/keeper"
	"zoneworks/orbit"
	"zoneworks/overlap"
	"zoneworks/plate"
	"zoneworks/roof"
	"zoneworks/screw"
	"zoneworks/turn"
	"zoneworks/twice"
)

// Layer 1.
var (
	_ func(s api.Screw, reading int) (api.Span, api.Errno) = screw.Travel
	_ func(m api.Measure) (api.Span, api.Errno)            = screw.Sum
	_ func(m api.Measure, image int) (api.Span, api.Errno) = screw.Place
	_ func(m api.Measure, a, b int) (api.Span, api.Errno)  = screw.Apart
	_ func(m api.Measure) (settings int, e api.Errno)      = screw.Clash
	_ func(m api.Measure) (settings int, e api.Errno)      = screw.Drop
	_ func(m api.Measure) (settings int, e api.Errno)      = screw.Idle
	_ func(m api.Measure) (images int, e api.Errno)        = screw.Once
)

// Layer 2.
var (
	_ func(s api.Sheet, t api.Trail) (bool, api.Errno)               = image.Fits
	_ func(s api.Sheet) (int, api.Errno)                             = image.Count
	_ func(s api.Sheet) (int, api.Errno)                             = image.Needs
	_ func(s api.Sheet) ([]api.Trail, api.Errno)                     = image.Fewest
	_ func(s api.Sheet) (stars, flaws int, e api.Errno)              = image.Tell
	_ func(s api.Sheet) (api.Span, api.Errno)                        = image.Stars
	_ func(s api.Sheet, spot int) (x, y, size api.Span, e api.Errno) = image.Where
)

// Layer 3.
var (
	_ func(w api.Watch, eye int) (api.Span, api.Errno)   = eye.Habit
	_ func(w api.Watch, a, b int) (api.Span, api.Errno)  = eye.Between
	_ func(w api.Watch, image int) (api.Span, api.Errno) = eye.Place
	_ func(w api.Watch) (eyes int, e api.Errno)          = eye.Sure
	_ func(w api.Watch) (looks int, e api.Errno)         = eye.Clash
	_ func(w api.Watch) (looks int, e api.Errno)         = eye.Drop
	_ func(w api.Watch) (eyes int, e api.Errno)          = eye.Explain
)

// Layer 4.
var (
	_ func(p api.Plate) (api.Span, api.Errno)                         = plate.Scale
	_ func(p api.Plate) (east, north api.Span, e api.Errno)           = plate.Zero
	_ func(p api.Plate, star int) (east, north api.Span, e api.Errno) = plate.Star
	_ func(p api.Plate, a, b int) (east, north api.Span, e api.Errno) = plate.Apart
	_ func(p api.Plate, east, north int) (x, y api.Span, e api.Errno) = plate.Find
	_ func(p api.Plate) (stars int, e api.Errno)                      = plate.Clash
	_ func(p api.Plate) (stars int, e api.Errno)                      = plate.Drop
	_ func(p api.Plate) (star, wide int, e api.Errno)                 = plate.Poor
)

// Layer 5.
var (
	_ func(z api.Zone, l []api.Fix) (size, overlap int, e api.Errno)  = overlap.Greatest
	_ func(z api.Zone) (int, api.Errno)                               = overlap.Best
	_ func(z api.Zone) ([]api.Fix, api.Errno)                         = overlap.Adjust
	_ func(z api.Zone, plate int) (east, north api.Span, e api.Errno) = overlap.Range
	_ func(z api.Zone) (plates int, e api.Errno)                      = overlap.Rigid
	_ func(z api.Zone) (overlaps int, e api.Errno)                    = overlap.Proof
	_ func(z api.Zone) ([]int, api.Errno)                             = overlap.Costs
	_ func(z api.Zone, most int) (overlaps int, e api.Errno)          = overlap.Without
)

// Layer 6.
var (
	_ func(b api.Border, first, second, east, north int) (bool, api.Errno) = border.Same
	_ func(b api.Border, east, north int) (int, api.Errno)                 = border.Possible
	_ func(b api.Border) (east, north api.Span, e api.Errno)               = border.Shift
	_ func(b api.Border, first int) (surely, can int, e api.Errno)         = border.Pairs
	_ func(b api.Border) (first, second int, e api.Errno)                  = border.Alone
	_ func(b api.Border) (east, north int, joining []int, e api.Errno)     = border.Best
	_ func(b api.Border) (first, second int, e api.Errno)                  = border.Clash
)

// Layer 7.
var (
	_ func(b api.Blink) (first, second []int, e api.Errno)  = blink.Stars
	_ func(b api.Blink, first, second int) (int, api.Errno) = blink.Can
	_ func(b api.Blink) (int, api.Errno)                    = blink.Count
	_ func(b api.Blink) ([]int, api.Errno)                  = blink.Fewest
	_ func(b api.Blink) (surely, can int, e api.Errno)      = blink.Moved
	_ func(b api.Blink) (surely, can int, e api.Errno)      = blink.Varied
	_ func(b api.Blink) (first, second int, e api.Errno)    = blink.Gone
)

// Layer 8.
var (
	_ func(s api.Search, images int) (bool, api.Errno)                        = orbit.Fits
	_ func(s api.Search, images int) (east, north api.Span, e api.Errno)      = orbit.Motion
	_ func(s api.Search, images, day int) (east, north api.Span, e api.Errno) = orbit.Where
	_ func(s api.Search) (int, api.Errno)                                     = orbit.Count
	_ func(s api.Search, a, b int) (int, api.Errno)                           = orbit.Together
	_ func(s api.Search) (surely, can int, e api.Errno)                       = orbit.Lost
	_ func(s api.Search) (bodies []int, e api.Errno)                          = orbit.Simple
	_ func(s api.Search) (bodies []int, e api.Errno)                          = orbit.Sure
)

// Layer 9.
var (
	_ func(p api.TurnPile, plates int) (bool, api.Errno)            = turn.Can
	_ func(p api.TurnPile, plates, plate int) (api.Span, api.Errno) = turn.Days
	_ func(p api.TurnPile, plates, plate int) (int, api.Errno)      = turn.Hand
	_ func(p api.TurnPile, plates, plate int) (int, api.Errno)      = turn.Why
	_ func(p api.TurnPile, plate int) (others int, e api.Errno)     = turn.False
	_ func(p api.TurnPile) (plates int, e api.Errno)                = turn.Wrong
	_ func(p api.TurnPile) (all, some int, e api.Errno)             = turn.Surely
)

// Layer 10.
var (
	_ func(f api.Field) (plates int, e api.Errno)                          = cover.Useful
	_ func(f api.Field, plates, east, north int) (bool, api.Errno)         = cover.Served
	_ func(f api.Field, plates int) (east, north, places int, e api.Errno) = cover.Missing
	_ func(f api.Field) (plates int, e api.Errno)                          = cover.Shortest
	_ func(f api.Field) (int, api.Errno)                                   = cover.Lists
	_ func(f api.Field) (plates int, e api.Errno)                          = cover.Needed
	_ func(f api.Field) (places [][2]int, e api.Errno)                     = cover.Apart
)

// Layer 11.
var (
	_ func(s api.Shelf, a, b int) (int, api.Errno) = twice.Same
	_ func(s api.Shelf) (int, api.Errno)           = twice.Count
	_ func(s api.Shelf) ([]int, api.Errno)         = twice.First
	_ func(s api.Shelf) (api.Span, api.Errno)      = twice.Plates
	_ func(s api.Shelf) (notes int, e api.Errno)   = twice.Clash
	_ func(s api.Shelf) (notes int, e api.Errno)   = twice.Drop
	_ func(s api.Shelf) (notes int, e api.Errno)   = twice.Idle
)

// Layer 12.
var (
	_ func(c api.Chain, plate, records int) (person int, e api.Errno) = chain.Holder
	_ func(c api.Chain, plate int) (record int, e api.Errno)          = chain.Break
	_ func(c api.Chain, plate, record int) ([]int, api.Errno)         = chain.Path
	_ func(c api.Chain) (int, api.Errno)                              = chain.Least
	_ func(c api.Chain, plate int) (persons int, e api.Errno)         = chain.Where
	_ func(c api.Chain, plate int) (surely, can int, e api.Errno)     = chain.Hands
	_ func(c api.Chain, person int) (surely, can int, e api.Errno)    = chain.Holds
	_ func(c api.Chain) (records int, e api.Errno)                    = chain.Drop
)

// Layer 13.
var (
	_ func(r api.Roof, day int) (surely, can int, e api.Errno)        = roof.Wet
	_ func(r api.Roof, plate int) (day int, surely bool, e api.Errno) = roof.When
	_ func(r api.Roof, leak int) (columns int, e api.Errno)           = roof.Above
	_ func(r api.Roof) (int, api.Errno)                               = roof.Count
	_ func(r api.Roof, day int) (plate int, left int, e api.Errno)    = roof.Look
	_ func(r api.Roof) (finds int, e api.Errno)                       = roof.Clash
	_ func(r api.Roof, day int) (shelves [][2]int, e api.Errno)       = roof.Safe
)

// Layer 14.
var (
	_ func(m api.Measure) (string, api.Errno)    = book.WriteMeasure
	_ func(text string) (api.Measure, api.Errno) = book.ReadMeasure
	_ func(p api.Plate) (string, api.Errno)      = book.WritePlate
	_ func(text string) (api.Plate, api.Errno)   = book.ReadPlate
	_ func(c api.Chain) (string, api.Errno)      = book.WriteChain
	_ func(text string) (api.Chain, api.Errno)   = book.ReadChain
	_ func(s api.Search) ([]byte, api.Errno)     = book.WriteSearch
	_ func(file []byte) (api.Search, api.Errno)  = book.ReadSearch
)

// Layer 15.
var (
	_ func(k api.Keep) (*keeper.Keeper, api.Errno)                                  = keeper.New
	_ func(k *keeper.Keeper, line string) (string, api.Errno)                       = (*keeper.Keeper).Line
	_ func(k *keeper.Keeper) api.Vault                                              = (*keeper.Keeper).Vault
	_ func(k api.Keep, lines []string) (replies []string, refused int, e api.Errno) = keeper.Play
)

// The error codes have the numbers that the document gives them.
func TestErrorCodes(t *testing.T) {
	for want, got := range []api.Errno{api.OK, api.ErrArg, api.ErrRange, api.ErrLong, api.ErrNone, api.ErrTwice, api.ErrState, api.ErrOrder, api.ErrForm, api.ErrFull, api.ErrClash, api.ErrRefuse, api.ErrDoubt, api.ErrNil} {
		if int(got) != want {
			t.Error(got, want)
		}
	}
}
