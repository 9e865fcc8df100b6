/- Plate: a plate is looked at. -/
import Derived.Test.YtdkegkacpdkjgaaGreatPva
import Derived.Test.YtdkegkacpdkjgaaGreatPsd
namespace Go.Proofs.YtdkegkacpdkjgaaGreat
open Go.RowKit

def lookV (p : Pl) : Array Value := #[.int .i64 p.lo, .int .i64 p.hi, .slice p.a p.n p.cap] ++ (sideV p 133 ++ sideV p 134)

set_option maxRecDepth 100000 in
set_option maxHeartbeats 2000000 in
theorem lookAt_no (p : Pl) (ss : List St) (w : World) (h : PlAt p ss w) (hv : plB p ss = false) : Calls Tryz.prog 36 #[p.val] w (Pan 1 w) := by
  have hval : ∀ w' : World, Below w.heap.size w w' → Calls Tryz.prog 99 #[p.val] w' (Ret (.bool false) w') := fun w' hB => by
    have := valid_any p ss w' (h.below hB (Nat.le_refl _)); rw [hv] at this; exact this
  have HV := Lib.hid hval
  clear h hval
  unfold Pl.val at HV ⊢
  go_enter Tryz.func36, Tryz.ntmps36
  go_wp2_with (first
    | (go_at_call 99; refine (HV.out _ (by (repeat (first | exact Below.refl _ _ | refine BA ?_ _)))).mono ?_; rintro e w1 ⟨rfl, hb1⟩; have hB1 : Below w.heap.size w w1 := BT (by (repeat (first | exact Below.refl _ _ | refine BA ?_ _))) hb1)
    | (go_at_call 62; refine (insist_no 1 _).mono ?_; rintro e w2 ⟨rfl, hb2⟩))
  exact ⟨rfl, rfl, BT hB1 hb2⟩
end Go.Proofs.YtdkegkacpdkjgaaGreat
