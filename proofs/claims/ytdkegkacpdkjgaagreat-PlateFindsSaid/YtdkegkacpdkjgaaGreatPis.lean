/- Plate: a star's number; a set of stars. -/
import Derived.Test.YtdkegkacpdkjgaaGreatPlk
namespace Go.Proofs.YtdkegkacpdkjgaaGreat
open Go.RowKit

set_option maxHeartbeats 1000000 in
theorem insistStar_ok (p : Pl) (i : Int) (w : World) (h0 : 0 ≤ i) (h1 : i < p.n) : Calls Tryz.prog 50 #[.agg (lookV p), .int .i64 i] w (Ret (.tuple #[]) w) := by
  unfold lookV sideV
  go_enter Tryz.func50, Tryz.ntmps50
  go_wp2_with (go_at_call 62; refine (insist_yes 2 _).mono ?_; rintro e w2 ⟨rfl, hb2⟩)
  go_end0
  exact ⟨rfl, BT (by (repeat (first | assumption | exact Below.refl _ _ | refine BA ?_ _ | refine Below.drew ?_ | refine BT ?_ (by assumption)))) hb2⟩
set_option maxHeartbeats 1000000 in
theorem insistStar_no (p : Pl) (i : Int) (w : World) (h : ¬ (0 ≤ i ∧ i < p.n)) : Calls Tryz.prog 50 #[.agg (lookV p), .int .i64 i] w (Pan 2 w) := by
  unfold lookV sideV
  by_cases h0 : 0 ≤ i
  · have h1 : ¬ i < p.n := fun h1 => h ⟨h0, h1⟩
    clear h
    go_enter Tryz.func50, Tryz.ntmps50
    go_wp2_with (go_at_call 62; refine (insist_no 2 _).mono ?_; rintro e w2 ⟨rfl, hb2⟩)
    exact ⟨rfl, rfl, BT (by (repeat (first | assumption | exact Below.refl _ _ | refine BA ?_ _ | refine Below.drew ?_ | refine BT ?_ (by assumption)))) hb2⟩
  · clear h
    go_enter Tryz.func50, Tryz.ntmps50
    go_wp2_with (go_at_call 62; refine (insist_no 2 _).mono ?_; rintro e w2 ⟨rfl, hb2⟩)
    exact ⟨rfl, rfl, BT (by (repeat (first | assumption | exact Below.refl _ _ | refine BA ?_ _ | refine Below.drew ?_ | refine BT ?_ (by assumption)))) hb2⟩

def setI (set : Int) (k : Nat) : Bool := bits .and .i64 set (wrap64 (2 ^ k)) != 0
set_option maxHeartbeats 1000000 in
theorem has_set (set : Int) (k : Nat) (w : World) (hk : k ≤ 12) : Calls Tryz.prog 120 #[.int .i64 set, .int .i64 k] w (Ret (.bool (setI set k)) w) := by
  have hk0 : (0 : Int) ≤ (k : Int) := by omega
  have hk1 : (k : Int) ≤ 12 := by omega
  have hS : Hid (setI set k = (bits .and .i64 set (wrap64 (2 ^ k)) != 0)) := rfl
  go_enter Tryz.func120, Tryz.ntmps120
  go_wp2
  go_ret
  exact ⟨by rw [hS.out]; rfl, Below.refl _ _⟩
end Go.Proofs.YtdkegkacpdkjgaaGreat
