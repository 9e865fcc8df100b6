/- Plate: the walks of the small functions: spans; whether numbers rise. -/
import Derived.Test.YtdkegkacpdkjgaaBase
import Derived.WalkLawsBesides
import Derived.BigQuiet
import Derived.Deep.QuietTactic
import Derived.Handy
namespace Go.Proofs.Ytdkegkacpdkjgaa
open Go.RowKit

def spn (lo hi : Int) : Value := .agg #[.int .i64 lo, .int .i64 hi]

theorem only_any (n : Int) (w : World) : Calls Try.prog 62 #[.int .i64 n] w (Ret (.agg #[.int .i64 n, .int .i64 n]) w) := by
  go_enter Try.func62, Try.ntmps62
  go_wp2
  exact bodyPost_ret (v := .agg #[.int .i64 n, .int .i64 n]) (by simp [results, Try.results62, go_sem]) rfl ⟨rfl, (by (repeat (first | exact Below.refl _ _ | refine BA ?_ _ | refine BC ?_ _ _ (by simp) _)))⟩
theorem anywhere_any (w : World) : Calls Try.prog 104 #[] w (Ret (.agg #[.int .i64 (-67108864), .int .i64 67108864]) w) := by
  go_enter Try.func104, Try.ntmps104
  go_wp2
  exact bodyPost_ret (v := .agg #[.int .i64 (-67108864), .int .i64 67108864]) (by simp [results, Try.results104, go_sem]) rfl ⟨rfl, (by (repeat (first | exact Below.refl _ _ | refine BA ?_ _ | refine BC ?_ _ _ (by simp) _)))⟩
theorem add_any (a b c d : Int) (w : World) (h0 : -9223372036854775808 ≤ a + c ∧ a + c ≤ 9223372036854775807) (h1 : -9223372036854775808 ≤ b + d ∧ b + d ≤ 9223372036854775807) : Calls Try.prog 84 #[.agg #[.int .i64 a, .int .i64 b], .agg #[.int .i64 c, .int .i64 d]] w (Ret (.agg #[.int .i64 (a + c), .int .i64 (b + d)]) w) := by
  go_enter Try.func84, Try.ntmps84
  go_wp2
  exact bodyPost_ret (v := .agg #[.int .i64 (a + c), .int .i64 (b + d)]) (by simp [results, Try.results84, go_sem]) rfl ⟨rfl, (by (repeat (first | exact Below.refl _ _ | refine BA ?_ _ | refine BC ?_ _ _ (by simp) _)))⟩
theorem less_any (a b c d : Int) (w : World) (h0 : -9223372036854775808 ≤ a - d ∧ a - d ≤ 9223372036854775807) (h1 : -9223372036854775808 ≤ b - c ∧ b - c ≤ 9223372036854775807) : Calls Try.prog 94 #[.agg #[.int .i64 a, .int .i64 b], .agg #[.int .i64 c, .int .i64 d]] w (Ret (.agg #[.int .i64 (a - d), .int .i64 (b - c)]) w) := by
  go_enter Try.func94, Try.ntmps94
  go_wp2
  exact bodyPost_ret (v := .agg #[.int .i64 (a - d), .int .i64 (b - c)]) (by simp [results, Try.results94, go_sem]) rfl ⟨rfl, (by (repeat (first | exact Below.refl _ _ | refine BA ?_ _ | refine BC ?_ _ _ (by simp) _)))⟩
theorem join_any (a b c d : Int) (w : World) : Calls Try.prog 82 #[.agg #[.int .i64 a, .int .i64 b], .agg #[.int .i64 c, .int .i64 d]] w (Ret (.agg #[.int .i64 (max a c), .int .i64 (min b d)]) w) := by
  go_enter Try.func82, Try.ntmps82
  go_wp2
  all_goals exact bodyPost_ret (v := .agg #[.int .i64 (max a c), .int .i64 (min b d)]) (by simp [results, Try.results82, go_sem]; omega) rfl ⟨rfl, (by (repeat (first | exact Below.refl _ _ | refine BA ?_ _ | refine BC ?_ _ _ (by simp) _)))⟩
theorem width_any (a b : Int) (w : World) (h : -9223372036854775808 ≤ b - a ∧ b - a ≤ 9223372036854775807) : Calls Try.prog 74 #[.agg #[.int .i64 a, .int .i64 b]] w (Ret (.int .i64 (b - a)) w) := by
  go_enter Try.func74, Try.ntmps74
  go_wp2
  go_ret
  exact ⟨rfl, (by (repeat (first | exact Below.refl _ _ | refine BA ?_ _ | refine BC ?_ _ _ (by simp) _)))⟩
theorem rising2_any (B : Nat) (x0 x1 : Int) (w : World) (h0 : w.cell? ⟨B, 0, none⟩ = some (.int .i64 x0)) (h1 : w.cell? ⟨B, 1, none⟩ = some (.int .i64 x1)) :
    Calls Try.prog 93 #[.slice (some ⟨B, 0, none⟩) 2 2] w (Ret (.bool (decide (x0 ≤ x1))) w) := by
  go_enter Try.func93, Try.ntmps93
  go_wp2
  refine wp_loop_rounds 2 ?_
  repeat any_goals (first | (rw [rounds_succ]; go_wp2) | (go_region; go_wp2))
  all_goals go_ret
  all_goals exact ⟨by simp; try omega, by (repeat (first | exact Below.refl _ _ | refine Below.drew ?_))⟩
theorem rising4_any (B : Nat) (x0 x1 x2 x3 : Int) (w : World) (h0 : w.cell? ⟨B, 0, none⟩ = some (.int .i64 x0)) (h1 : w.cell? ⟨B, 1, none⟩ = some (.int .i64 x1)) (h2 : w.cell? ⟨B, 2, none⟩ = some (.int .i64 x2)) (h3 : w.cell? ⟨B, 3, none⟩ = some (.int .i64 x3)) :
    Calls Try.prog 93 #[.slice (some ⟨B, 0, none⟩) 4 4] w (Ret (.bool (decide (x0 ≤ x1) && decide (x1 ≤ x2) && decide (x2 ≤ x3))) w) := by
  go_enter Try.func93, Try.ntmps93
  go_wp2
  refine wp_loop_rounds 4 ?_
  repeat any_goals (first | (rw [rounds_succ]; go_wp2) | (go_region; go_wp2))
  all_goals go_ret
  all_goals exact ⟨by simp; try omega, by (repeat (first | exact Below.refl _ _ | refine Below.drew ?_))⟩
def sideB (a b : Int) : Bool := decide (0 ≤ a) && decide (a ≤ b) && decide (b ≤ 32768)
theorem isSide_any (a b : Int) (w : World) : Calls Try.prog 98 #[.agg #[.int .i64 a, .int .i64 b]] w (Ret (.bool (sideB a b)) w) := by
  go_enter Try.func98, Try.ntmps98
  go_wp2_with (go_at_call 93; refine (rising4_any _ 0 a b 32768 _ (by go_cell) (by go_cell) (by go_cell) (by go_cell)).mono ?_; rintro e w' ⟨rfl, hb⟩)
  go_ret
  exact ⟨rfl, BT (by (repeat (first | exact Below.refl _ _ | refine BA ?_ _ | refine BC ?_ _ _ (by simp) _))) hb⟩
def skyB (a b : Int) : Bool := decide ((-1048576) ≤ a) && decide (a ≤ b) && decide (b ≤ 1048576)
theorem isSky_any (a b : Int) (w : World) : Calls Try.prog 64 #[.agg #[.int .i64 a, .int .i64 b]] w (Ret (.bool (skyB a b)) w) := by
  go_enter Try.func64, Try.ntmps64
  go_wp2_with (go_at_call 93; refine (rising4_any _ (-1048576) a b 1048576 _ (by go_cell) (by go_cell) (by go_cell) (by go_cell)).mono ?_; rintro e w' ⟨rfl, hb⟩)
  go_ret
  exact ⟨rfl, BT (by (repeat (first | exact Below.refl _ _ | refine BA ?_ _ | refine BC ?_ _ _ (by simp) _))) hb⟩
end Go.Proofs.Ytdkegkacpdkjgaa
