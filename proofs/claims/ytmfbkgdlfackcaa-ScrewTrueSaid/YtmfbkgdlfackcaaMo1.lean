/- ScrewMore: whether a span lies within another one. -/
import Derived.Test.YtmfbkgdlfackcaaMor
namespace Go.Proofs.Ytmfbkgdlfackcaa
open Fw Go.RowKit

def withinB (a1 a2 b1 b2 : Int) : Bool := decide (b1 ≤ a1) && decide (a2 ≤ b2)
theorem in42_any (a1 a2 b1 b2 : Int) (w : World) : Calls Try.prog 42 #[.agg #[.int .i64 a1, .int .i64 a2], .agg #[.int .i64 b1, .int .i64 b2]] w (Ret (.bool (withinB a1 a2 b1 b2)) w) := by
  have he : Hid (withinB a1 a2 b1 b2 = (decide (b1 ≤ a1) && decide (a2 ≤ b2))) := rfl
  generalize withinB a1 a2 b1 b2 = g at *
  by_cases h1 : b1 ≤ a1
  · have hd : decide (a1 ≥ b1) = true := by simpa using h1
    by_cases h2 : a2 ≤ b2
    all_goals
      go_enter Try.func42, Try.ntmps42
      go_wp2
      go_ret
      exact ⟨by rw [he.out]; simp [h1, h2], by (repeat (first | assumption | exact Below.refl _ _ | refine BA ?_ _ | refine BC ?_ _ _ (by omega) _ | refine Below.drew ?_ | refine BT ?_ (by assumption)))⟩
  · have hd : decide (a1 ≥ b1) = false := by simp; omega
    go_enter Try.func42, Try.ntmps42
    go_wp2
    go_ret
    exact ⟨by rw [he.out]; simp; omega, by (repeat (first | assumption | exact Below.refl _ _ | refine BA ?_ _ | refine BC ?_ _ _ (by omega) _ | refine Below.drew ?_ | refine BT ?_ (by assumption)))⟩
end Go.Proofs.Ytmfbkgdlfackcaa
