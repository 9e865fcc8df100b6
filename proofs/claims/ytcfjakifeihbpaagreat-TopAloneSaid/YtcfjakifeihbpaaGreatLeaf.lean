/- The walks of the small functions: spans, whether a number is held, an image, a turn. -/
import Derived.Test.YtcfjakifeihbpaaGreatBase
import Derived.WalkLawsBesides
import Derived.BigQuiet
import Derived.Deep.QuietTactic
namespace Go.Proofs.YtcfjakifeihbpaaGreat
open Go.RowKit

def span2 (lo hi : Int) : Value := .agg #[.int .i64 lo, .int .i64 hi]

theorem known_any (lo hi : Int) (w : World) : Calls Tryz.prog 84 #[.agg #[.int .i64 lo, .int .i64 hi]] w (Ret (.agg #[.int .i64 lo, .int .i64 hi]) w) := by
  go_enter Tryz.func84, Tryz.ntmps84
  go_wp2
  exact bodyPost_ret (v := .agg #[.int .i64 lo, .int .i64 hi]) (by simp [results, Tryz.results84, go_sem]) rfl ⟨rfl, ((Below.refl _ _).alloc (Nat.le_refl _) _).alloc (by simp) _⟩
theorem span_any (lo hi : Int) (w : World) : Calls Tryz.prog 49 #[.agg #[.int .i64 lo, .int .i64 hi]] w (Ret (.agg #[.int .i64 lo, .int .i64 hi]) w) := by
  go_enter Tryz.func49, Tryz.ntmps49
  go_wp2
  exact bodyPost_ret (v := .agg #[.int .i64 lo, .int .i64 hi]) (by simp [results, Tryz.results49, go_sem]) rfl ⟨rfl, ((Below.refl _ _).alloc (Nat.le_refl _) _).alloc (by simp) _⟩

def holdB (a b c d : Int) : Bool := decide (a ≤ c) && decide (c ≤ d) && decide (d ≤ b)
theorem hold_any (a b c d : Int) (w : World) :
    Calls Tryz.prog 83 #[.agg #[.int .i64 a, .int .i64 b], .agg #[.int .i64 c, .int .i64 d]] w (Ret (.bool (holdB a b c d)) w) := by
  by_cases h1 : a ≤ c
  · by_cases h2 : c ≤ d
    · by_cases h3 : d ≤ b
      all_goals
        have he : Hid (holdB a b c d = decide (d ≤ b)) := by show _ = _; simp [holdB, h1, h2]
        go_enter Tryz.func83, Tryz.ntmps83
        go_wp2
        go_ret
        exact ⟨by rw [he.out]; simp [h3], ((Below.refl _ _).alloc (Nat.le_refl _) _).alloc (by simp) _⟩
    · have he : Hid (holdB a b c d = false) := by show _ = _; simp [holdB, h2]
      go_enter Tryz.func83, Tryz.ntmps83
      go_wp2
      go_ret
      exact ⟨by rw [he.out]; rfl, ((Below.refl _ _).alloc (Nat.le_refl _) _).alloc (by simp) _⟩
  · have he : Hid (holdB a b c d = false) := by show _ = _; simp [holdB, h1]
    go_enter Tryz.func83, Tryz.ntmps83
    go_wp2
    go_ret
    exact ⟨by rw [he.out]; rfl, ((Below.refl _ _).alloc (Nat.le_refl _) _).alloc (by simp) _⟩
theorem has_any (a b c : Int) (w : World) :
    Calls Tryz.prog 81 #[.agg #[.int .i64 a, .int .i64 b], .int .i64 c] w (Ret (.bool (holdB a b c c)) w) := by
  go_enter Tryz.func81, Tryz.ntmps81
  go_wp2_with (go_at_call 83; refine (hold_any _ _ _ _ _).mono ?_; rintro e w' ⟨rfl, hb⟩)
  go_ret
  exact ⟨rfl, ((Below.refl _ _).alloc (Nat.le_refl _) _).trans (hb.mono (by simp))⟩
theorem placeOf_any (n : Int) (w : World) : Calls Tryz.prog 51 #[.int .i64 n] w (Ret (.int .i64 (wrap64 (2 + n))) w) := by
  go_enter Tryz.func51, Tryz.ntmps51
  go_wp2
  go_ret
  exact ⟨rfl, Below.refl _ _⟩
def isImg (images n : Int) : Bool := decide (0 ≤ n) && decide (n < images)
theorem isImage_any (v0 v1 v2 v4 v5 v6 : Value) (images n : Int) (w : World) :
    Calls Tryz.prog 79 #[.agg #[v0, v1, v2, .int .i64 images, v4, v5, v6], .int .i64 n] w (Ret (.bool (isImg images n)) w) := by
  by_cases h1 : 0 ≤ n
  · by_cases h2 : n < images
    all_goals
      have he : Hid (isImg images n = decide (n < images)) := by show _ = _; simp [isImg, h1]
      go_enter Tryz.func79, Tryz.ntmps79
      go_wp2
      go_ret
      exact ⟨by rw [he.out]; simp [h2], ((Below.refl _ _).alloc (Nat.le_refl _) _)⟩
  · have he : Hid (isImg images n = false) := by show _ = _; simp [isImg, h1]
    go_enter Tryz.func79, Tryz.ntmps79
    go_wp2
    go_ret
    exact ⟨by rw [he.out]; rfl, ((Below.refl _ _).alloc (Nat.le_refl _) _)⟩
def hasTrn (turns : Nat) (r : Int) : Bool := decide (0 ≤ r) && decide (r / 1000 < turns)
theorem hasTurn_any (a : Option Addr) (n cap : Nat) (v1 v2 : Value) (r : Int) (w : World) (hr : r ≤ 9223372036854775807) :
    Calls Tryz.prog 58 #[.agg #[.slice a n cap, v1, v2], .int .i64 r] w (Ret (.bool (hasTrn n r)) w) := by
  by_cases h1 : 0 ≤ r
  · by_cases h2 : r / 1000 < n
    all_goals
      have he : Hid (hasTrn n r = decide (r / 1000 < n)) := by show _ = _; simp [hasTrn, h1]
      go_enter Tryz.func58, Tryz.ntmps58
      go_wp2
      go_ret
      exact ⟨by rw [he.out]; simp [h2], ((Below.refl _ _).alloc (Nat.le_refl _) _)⟩
  · have he : Hid (hasTrn n r = false) := by show _ = _; simp [hasTrn, h1]
    go_enter Tryz.func58, Tryz.ntmps58
    go_wp2
    go_ret
    exact ⟨by rw [he.out]; rfl, ((Below.refl _ _).alloc (Nat.le_refl _) _)⟩
theorem insist_yes (c : Int) (w : World) : Calls Tryz.prog 47 #[.bool true, .int .i64 c] w (Ret (.tuple #[]) w) := by
  go_enter Tryz.func47, Tryz.ntmps47
  go_wp2
  go_end0
  exact ⟨rfl, Below.refl _ _⟩
theorem insist_no (c : Int) (w : World) : Calls Tryz.prog 47 #[.bool false, .int .i64 c] w (Pan c w) := by
  go_enter Tryz.func47, Tryz.ntmps47
  go_wp2
  exact ⟨rfl, rfl, Below.refl _ _⟩
end Go.Proofs.YtcfjakifeihbpaaGreat
