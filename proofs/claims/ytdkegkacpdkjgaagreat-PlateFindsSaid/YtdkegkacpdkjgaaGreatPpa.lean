/- Plate: 'part': a plate with the stars of a set alone known. -/
import Derived.Test.YtdkegkacpdkjgaaGreatPas
namespace Go.Proofs.YtdkegkacpdkjgaaGreat
open Go.RowKit

theorem flat_set {ss : List St} {n : Nat} {v : Bool} (hn : n < ss.length) : (ss.flatMap starC).set (n * 9 + 4) (.bool v) = (ss.set n { ss.getD n default with k := v }).flatMap starC := by
  apply List.ext_getElem?
  intro j
  by_cases hj : j < ss.length * 9
  · obtain ⟨i, r, hr, rfl⟩ : ∃ i r, r < 9 ∧ j = i * 9 + r := ⟨j / 9, j % 9, by omega, by omega⟩
    have hi : i < ss.length := by omega
    rw [flat_get (ss := ss.set n _) (by rw [List.length_set]; exact hi) hr]
    by_cases he : i = n
    · subst he
      have e : (ss.set i { ss.getD i default with k := v }).getD i default = { ss.getD i default with k := v } := by simp [List.getD, hn]
      rw [e]
      have hf := fun r hr => flat_get (ss := ss) (i := i) (r := r) hi hr
      have L : (ss.flatMap starC).length = ss.length * 9 := flat_len9 ss
      have l4 : i * 9 + 4 < ss.length * 9 := by omega
      generalize ss.getD i default = s at hf
      have hc : r = 0 ∨ r = 1 ∨ r = 2 ∨ r = 3 ∨ r = 4 ∨ r = 5 ∨ r = 6 ∨ r = 7 ∨ r = 8 := by omega
      rcases hc with rfl | rfl | rfl | rfl | rfl | rfl | rfl | rfl | rfl
      all_goals
        simp only [List.getElem?_set, L, Nat.add_left_cancel_iff, Nat.reduceEqDiff, if_true, if_false, l4]
        first | rfl | (rw [hf _ (by omega)]; rfl)
    · have e : (ss.set n { ss.getD n default with k := v }).getD i default = ss.getD i default := by
        simp [List.getD, Ne.symm he]
      rw [e, List.getElem?_set_ne (by omega), flat_get hi hr]
  · rw [List.getElem?_eq_none (by rw [List.length_set, flat_len9]; omega), List.getElem?_eq_none (by rw [flat_len9, List.length_set]; omega)]
def bitP (set : Int) (i : Nat) : Bool := bits .and .i64 (set / 2 ^ i) 1 == 1
/-- The first k stars are known as the set says. -/
def partTo (ss : List St) (set : Int) : Nat → List St
  | 0 => ss
  | k + 1 => (partTo ss set k).set k { (partTo ss set k).getD k default with k := bitP set k }
theorem partTo_len (ss : List St) (set : Int) : ∀ k, (partTo ss set k).length = ss.length
  | 0 => rfl
  | k + 1 => by rw [partTo, List.length_set, partTo_len ss set k]
theorem row_stars {X : World} {base g cap : Nat} {ss : List St} (hg : g < X.heap.size) (h : X.ownsRow base 60 9 (.slice (some ⟨g, 0, none⟩) ss.length cap) ss.length (ss.flatMap starC)) : StarsIn X (some ⟨g, 0, none⟩) ss := by
  refine .inr ⟨g, 0, rfl, hg, fun i hi => StAt.of fun r u hu => ?_⟩
  have hr : r < 9 := by have := (List.getElem?_eq_some_iff.1 hu).1; rwa [starC_len] at this
  rw [Nat.zero_add, h.cellAt (i * 9 + r) (by omega), flat_get hi hr, hu]
end Go.Proofs.YtdkegkacpdkjgaaGreat
