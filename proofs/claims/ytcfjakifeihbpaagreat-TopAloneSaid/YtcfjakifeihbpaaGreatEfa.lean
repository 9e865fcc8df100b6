/- Eye: whether a watch is left out. -/
import Derived.Test.YtcfjakifeihbpaaGreatErl
namespace Go.Proofs.YtcfjakifeihbpaaGreat
namespace Ey
open Go.RowKit

def farB (h : Wd) (xs : List (Int × Int)) (ls : List LkV) (q : Int) : Bool := decide (40 < ls.length) || decide (100 < xs.length) || (decide (q < (ls.length : Int)) && validW h xs ls)
end Ey
end Go.Proofs.YtcfjakifeihbpaaGreat
