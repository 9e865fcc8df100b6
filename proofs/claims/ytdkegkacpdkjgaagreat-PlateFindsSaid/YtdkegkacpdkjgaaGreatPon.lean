/- Plate: how many a set holds. -/
import Derived.Test.YtdkegkacpdkjgaaGreatPis
namespace Go.Proofs.YtdkegkacpdkjgaaGreat
open Go.RowKit

/-- How many of the twelve least bits are set. -/
def popc (x : Int) : Int := (List.range 12).foldl (fun s k => s + x / 2 ^ k % 2) 0

set_option maxRecDepth 100000 in
set_option maxHeartbeats 2000000 in
theorem ones64_any (x : Int) (w : World) (h0 : 0 ≤ x) (h1 : x < 4096) : Calls Tryz.prog 152 #[.int .u64 x] w (fun e w' => e = .returned (.int .i64 (popc x)) ∧ w' = w) := by
  go_enter Tryz.func152, Tryz.ntmps152
  go_wp2
  go_ret
  refine ⟨?_, rfl⟩
  refine congrArg (fun z => Ending.returned (.int .i64 z)) (?_ : _ = _)
  obtain ⟨k, rfl⟩ := Int.eq_ofNat_of_zero_le h0
  have hk : k < 4096 := by omega
  clear h0 h1
  revert k
  decide +kernel
theorem ones_any (x : Int) (w : World) (h0 : 0 ≤ x) (h1 : x < 4096) : Calls Tryz.prog 140 #[.int .u64 x] w (fun e w' => e = .returned (.int .i64 (popc x)) ∧ w' = w) := by
  go_enter Tryz.func140, Tryz.ntmps140
  go_wp2_with (go_at_call 152; refine (ones64_any _ _ (by omega) (by omega)).mono ?_; rintro e w1 ⟨rfl, rfl⟩)
  go_ret
  exact ⟨rfl, rfl⟩
theorem size_any (x : Int) (w : World) (h0 : 0 ≤ x) (h1 : x < 4096) : Calls Tryz.prog 121 #[.int .i64 x] w (fun e w' => e = .returned (.int .i64 (popc x)) ∧ w' = w) := by
  have hu : Hid (IntKind.u64.wrap x = x) := by show _ = _; first | exact IntWalk.u64_in _ (by omega) | exact IntWalk.u64_in _ (by omega) (by omega) | (simp [IntKind.wrap, IntKind.bits, IntKind.signed]; omega)
  go_enter Tryz.func121, Tryz.ntmps121
  go_wp2_with (go_at_call 140; (try rw [hu.out]); refine (ones_any x _ h0 h1).mono ?_; rintro e w1 ⟨rfl, rfl⟩)
  go_ret
  exact ⟨rfl, rfl⟩
end Go.Proofs.YtdkegkacpdkjgaaGreat
