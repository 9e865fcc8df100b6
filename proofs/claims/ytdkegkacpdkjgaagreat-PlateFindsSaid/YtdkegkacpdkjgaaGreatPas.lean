/- Plate: 'as': a plate with a star that is known to be at one place. -/
import Derived.Test.YtdkegkacpdkjgaaGreatPsa
import Derived.Test.YtdkegkacpdkjgaaGreatPlo
import Derived.Test.YtdkegkacpdkjgaaGreatSeq
import Derived.Test.YtdkegkacpdkjgaaGreatPsq
import Derived.Deep.AppendLies
namespace Go.Proofs.YtdkegkacpdkjgaaGreat
open Go.RowKit

theorem StarsIn.below {X X' : World} {a : Option Addr} {ss : List St} (h : StarsIn X a ss) (hb : Below X.heap.size X X') : StarsIn X' a ss :=
  h.elim .inl fun ⟨b, o, h1, h2, h3⟩ => .inr ⟨b, o, h1, Nat.lt_of_lt_of_le h2 hb.size, fun i hi => (h3 i hi).below hb h2⟩
def knowS (s : St) (a b c d : Int) : St := { s with k := true, e0 := a, e1 := b, n0 := c, n1 := d }
def AsOut (p : Pl) (ss : List St) (w : World) (e : Ending) (w' : World) : Prop :=
  ∃ sa cap, e = .returned (.agg #[.int .i64 p.lo, .int .i64 p.hi, .slice sa p.n cap]) ∧ PlAt ⟨p.lo, p.hi, sa, p.n, cap⟩ ss w' ∧ Below w.heap.size w w'
theorem row_cell {X : World} {base g n cap : Nat} {xs : List Value} (h : X.ownsRow base 60 9 (.slice (some ⟨g, 0, none⟩) n cap) n xs) (j : Nat) (hj : j < n * 9) (hl : xs.length = n * 9) : ∃ v, X.cell? ⟨g, j, none⟩ = some v := by
  rw [h.cellAt j hj]
  exact ⟨xs[j], List.getElem?_eq_getElem (by omega)⟩
theorem flat_get {ss : List St} {i r : Nat} (hi : i < ss.length) (hr : r < 9) : (ss.flatMap starC)[i * 9 + r]? = (starC (ss.getD i default))[r]? := by
  have hl : i * 9 + r < (ss.flatMap starC).length := by rw [flat_len9]; omega
  have h := flat_at (List.getElem?_eq_getElem hl)
  rw [show (i * 9 + r) / 9 = i by omega, show (i * 9 + r) % 9 = r by omega] at h
  rw [h, List.getElem?_eq_getElem hl]
theorem know_row {X : World} {base g cap n : Nat} {ss : List St} {a b c d : Int} (hn : n < ss.length) (hg : g < X.heap.size)
    (h : X.ownsRow base 60 9 (.slice (some ⟨g, 0, none⟩) ss.length cap) ss.length ((((((ss.flatMap starC).set (n * 9 + 4) (.bool true)).set (n * 9 + 5) (.int .i64 a)).set (n * 9 + 5 + 1) (.int .i64 b)).set (n * 9 + 7) (.int .i64 c)).set (n * 9 + 7 + 1) (.int .i64 d))) :
    StarsIn X (some ⟨g, 0, none⟩) (ss.set n (knowS (ss.getD n default) a b c d)) := by
  refine .inr ⟨g, 0, rfl, hg, fun i hi => StAt.of fun r u hu => ?_⟩
  rw [List.length_set] at hi
  have hr : r < 9 := by have := (List.getElem?_eq_some_iff.1 hu).1; rwa [starC_len] at this
  rw [Nat.zero_add, h.cellAt (i * 9 + r) (by omega)]
  have L : (ss.flatMap starC).length = ss.length * 9 := flat_len9 ss
  by_cases he : i = n
  · subst he
    have e : (ss.set i (knowS (ss.getD i default) a b c d)).getD i default = knowS (ss.getD i default) a b c d := by simp [List.getD, hn]
    rw [e] at hu
    have l4 : i * 9 + 4 < ss.length * 9 := by omega
    have l5 : i * 9 + 5 < ss.length * 9 := by omega
    have l6 : i * 9 + 6 < ss.length * 9 := by omega
    have l7 : i * 9 + 7 < ss.length * 9 := by omega
    have l8 : i * 9 + 8 < ss.length * 9 := by omega
    have hf := fun r hr => flat_get (ss := ss) (i := i) (r := r) hi hr
    generalize ss.getD i default = s at hu hf
    rw [← hu]
    have hc : r = 0 ∨ r = 1 ∨ r = 2 ∨ r = 3 ∨ r = 4 ∨ r = 5 ∨ r = 6 ∨ r = 7 ∨ r = 8 := by omega
    rcases hc with rfl | rfl | rfl | rfl | rfl | rfl | rfl | rfl | rfl
    all_goals
      simp only [List.getElem?_set, List.length_set, L, Nat.add_assoc, Nat.reduceAdd, Nat.add_left_cancel_iff, Nat.reduceEqDiff, if_true, if_false, l4, l5, l6, l7, l8]
      first | rfl | (rw [hf _ (by omega)]; rfl)
  · have e : (ss.set n (knowS (ss.getD n default) a b c d)).getD i default = ss.getD i default := by
      simp [List.getD, Ne.symm he]
    rw [e] at hu
    rw [← hu, ← flat_get hi hr]
    have hne : ∀ j, 4 ≤ j → j < 9 → ∀ (xs : List Value) (v : Value), (xs.set (n * 9 + j) v)[i * 9 + r]? = xs[i * 9 + r]? := fun j h1 h2 xs v => List.getElem?_set_ne (by omega)
    rw [show n * 9 + 7 + 1 = n * 9 + 8 by omega, show n * 9 + 5 + 1 = n * 9 + 6 by omega, hne 8 (by omega) (by omega), hne 7 (by omega) (by omega), hne 6 (by omega) (by omega), hne 5 (by omega) (by omega), hne 4 (by omega) (by omega)]
end Go.Proofs.YtdkegkacpdkjgaaGreat
