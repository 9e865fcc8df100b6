/- Plate: the walks of the small functions: spans; whether numbers rise. -/
import Derived.Test.YtdkegkacpdkjgaaGreatBase
import Derived.WalkLawsBesides
import Derived.BigQuiet
import Derived.Deep.QuietTactic
import Derived.Handy
namespace Go.Proofs.YtdkegkacpdkjgaaGreat
open Go.RowKit

def spn (lo hi : Int) : Value := .agg #[.int .i64 lo, .int .i64 hi]

theorem only_any (n : Int) (w : World) : Calls Tryz.prog 61 #[.int .i64 n] w (Ret (.agg #[.int .i64 n, .int .i64 n]) w) := by
  go_enter Tryz.func61, Tryz.ntmps61
  go_wp2
  exact bodyPost_ret (v := .agg #[.int .i64 n, .int .i64 n]) (by simp [results, Tryz.results61, go_sem]) rfl ⟨rfl, (by (repeat (first | exact Below.refl _ _ | refine BA ?_ _ | refine BC ?_ _ _ (by simp) _)))⟩
theorem anywhere_any (w : World) : Calls Tryz.prog 139 #[] w (Ret (.agg #[.int .i64 (-67108864), .int .i64 67108864]) w) := by
  go_enter Tryz.func139, Tryz.ntmps139
  go_wp2
  exact bodyPost_ret (v := .agg #[.int .i64 (-67108864), .int .i64 67108864]) (by simp [results, Tryz.results139, go_sem]) rfl ⟨rfl, (by (repeat (first | exact Below.refl _ _ | refine BA ?_ _ | refine BC ?_ _ _ (by simp) _)))⟩
theorem add_any (a b c d : Int) (w : World) (h0 : -9223372036854775808 ≤ a + c ∧ a + c ≤ 9223372036854775807) (h1 : -9223372036854775808 ≤ b + d ∧ b + d ≤ 9223372036854775807) : Calls Tryz.prog 112 #[.agg #[.int .i64 a, .int .i64 b], .agg #[.int .i64 c, .int .i64 d]] w (Ret (.agg #[.int .i64 (a + c), .int .i64 (b + d)]) w) := by
  go_enter Tryz.func112, Tryz.ntmps112
  go_wp2
  exact bodyPost_ret (v := .agg #[.int .i64 (a + c), .int .i64 (b + d)]) (by simp [results, Tryz.results112, go_sem]) rfl ⟨rfl, (by (repeat (first | exact Below.refl _ _ | refine BA ?_ _ | refine BC ?_ _ _ (by simp) _)))⟩
theorem less_any (a b c d : Int) (w : World) (h0 : -9223372036854775808 ≤ a - d ∧ a - d ≤ 9223372036854775807) (h1 : -9223372036854775808 ≤ b - c ∧ b - c ≤ 9223372036854775807) : Calls Tryz.prog 115 #[.agg #[.int .i64 a, .int .i64 b], .agg #[.int .i64 c, .int .i64 d]] w (Ret (.agg #[.int .i64 (a - d), .int .i64 (b - c)]) w) := by
  go_enter Tryz.func115, Tryz.ntmps115
  go_wp2
  exact bodyPost_ret (v := .agg #[.int .i64 (a - d), .int .i64 (b - c)]) (by simp [results, Tryz.results115, go_sem]) rfl ⟨rfl, (by (repeat (first | exact Below.refl _ _ | refine BA ?_ _ | refine BC ?_ _ _ (by simp) _)))⟩
theorem join_any (a b c d : Int) (w : World) : Calls Tryz.prog 110 #[.agg #[.int .i64 a, .int .i64 b], .agg #[.int .i64 c, .int .i64 d]] w (Ret (.agg #[.int .i64 (max a c), .int .i64 (min b d)]) w) := by
  go_enter Tryz.func110, Tryz.ntmps110
  go_wp2
  all_goals exact bodyPost_ret (v := .agg #[.int .i64 (max a c), .int .i64 (min b d)]) (by simp [results, Tryz.results110, go_sem]; omega) rfl ⟨rfl, (by (repeat (first | exact Below.refl _ _ | refine BA ?_ _ | refine BC ?_ _ _ (by simp) _)))⟩
theorem width_any (a b : Int) (w : World) (h : -9223372036854775808 ≤ b - a ∧ b - a ≤ 9223372036854775807) : Calls Tryz.prog 81 #[.agg #[.int .i64 a, .int .i64 b]] w (Ret (.int .i64 (b - a)) w) := by
  go_enter Tryz.func81, Tryz.ntmps81
  go_wp2
  go_ret
  exact ⟨rfl, (by (repeat (first | exact Below.refl _ _ | refine BA ?_ _ | refine BC ?_ _ _ (by simp) _)))⟩
theorem rising2_any (B : Nat) (x0 x1 : Int) (w : World) (h0 : w.cell? ⟨B, 0, none⟩ = some (.int .i64 x0)) (h1 : w.cell? ⟨B, 1, none⟩ = some (.int .i64 x1)) :
    Calls Tryz.prog 116 #[.slice (some ⟨B, 0, none⟩) 2 2] w (Ret (.bool (decide (x0 ≤ x1))) w) := by
  go_enter Tryz.func116, Tryz.ntmps116
  go_wp2
  refine wp_loop_rounds 2 ?_
  repeat any_goals (first | (rw [rounds_succ]; go_wp2) | (go_region; go_wp2))
  all_goals go_ret
  all_goals exact ⟨by simp; try omega, by (repeat (first | exact Below.refl _ _ | refine Below.drew ?_))⟩
theorem rising4_any (B : Nat) (x0 x1 x2 x3 : Int) (w : World) (h0 : w.cell? ⟨B, 0, none⟩ = some (.int .i64 x0)) (h1 : w.cell? ⟨B, 1, none⟩ = some (.int .i64 x1)) (h2 : w.cell? ⟨B, 2, none⟩ = some (.int .i64 x2)) (h3 : w.cell? ⟨B, 3, none⟩ = some (.int .i64 x3)) :
    Calls Tryz.prog 116 #[.slice (some ⟨B, 0, none⟩) 4 4] w (Ret (.bool (decide (x0 ≤ x1) && decide (x1 ≤ x2) && decide (x2 ≤ x3))) w) := by
  go_enter Tryz.func116, Tryz.ntmps116
  go_wp2
  refine wp_loop_rounds 4 ?_
  repeat any_goals (first | (rw [rounds_succ]; go_wp2) | (go_region; go_wp2))
  all_goals go_ret
  all_goals exact ⟨by simp; try omega, by (repeat (first | exact Below.refl _ _ | refine Below.drew ?_))⟩
def sideB (a b : Int) : Bool := decide (0 ≤ a) && decide (a ≤ b) && decide (b ≤ 32768)
theorem isSide_any (a b : Int) (w : World) : Calls Tryz.prog 132 #[.agg #[.int .i64 a, .int .i64 b]] w (Ret (.bool (sideB a b)) w) := by
  go_enter Tryz.func132, Tryz.ntmps132
  go_wp2_with (go_at_call 116; refine (rising4_any _ 0 a b 32768 _ (by go_cell) (by go_cell) (by go_cell) (by go_cell)).mono ?_; rintro e w' ⟨rfl, hb⟩)
  go_ret
  exact ⟨rfl, BT (by (repeat (first | exact Below.refl _ _ | refine BA ?_ _ | refine BC ?_ _ _ (by simp) _))) hb⟩
def skyB (a b : Int) : Bool := decide ((-1048576) ≤ a) && decide (a ≤ b) && decide (b ≤ 1048576)
theorem isSky_any (a b : Int) (w : World) : Calls Tryz.prog 63 #[.agg #[.int .i64 a, .int .i64 b]] w (Ret (.bool (skyB a b)) w) := by
  go_enter Tryz.func63, Tryz.ntmps63
  go_wp2_with (go_at_call 116; refine (rising4_any _ (-1048576) a b 1048576 _ (by go_cell) (by go_cell) (by go_cell) (by go_cell)).mono ?_; rintro e w' ⟨rfl, hb⟩)
  go_ret
  exact ⟨rfl, BT (by (repeat (first | exact Below.refl _ _ | refine BA ?_ _ | refine BC ?_ _ _ (by simp) _))) hb⟩
end Go.Proofs.YtdkegkacpdkjgaaGreat
