/- Eye: what a set holds. -/
import Derived.Test.YtcfjakifeihbpaaGreatEly
namespace Go.Proofs.YtcfjakifeihbpaaGreat
namespace Ey
open Go.RowKit

def setI (set : Int) (k : Nat) : Bool := bits .and .i64 set (wrap64 (2 ^ k)) != 0
set_option maxHeartbeats 1000000 in
theorem has_set (set : Int) (k : Nat) (w : World) (hk : k ≤ 12) : Calls Tryz.prog 66 #[.int .i64 set, .int .i64 k] w (Ret (.bool (setI set k)) w) := by
  have hk0 : (0 : Int) ≤ (k : Int) := by omega
  have hk1 : (k : Int) ≤ 12 := by omega
  have hS : Hid (setI set k = (bits .and .i64 set (wrap64 (2 ^ k)) != 0)) := rfl
  go_enter Tryz.func66, Tryz.ntmps66
  go_wp2
  go_ret
  exact ⟨by rw [hS.out]; rfl, Below.refl _ _⟩
end Ey
end Go.Proofs.YtcfjakifeihbpaaGreat
