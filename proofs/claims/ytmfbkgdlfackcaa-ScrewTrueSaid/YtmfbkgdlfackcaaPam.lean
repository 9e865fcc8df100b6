/- The settings of a set alone: what they tell is what the set tells. -/
import Derived.Test.YtmfbkgdlfackcaaMcs
namespace Go.Proofs.Ytmfbkgdlfackcaa
open Fw Go.RowKit

/-- The first settings, so far as they are in a set. -/
def partTo (ss : List Sett) (set : Int) : Nat → List Sett
  | 0 => []
  | k + 1 => if hasB set k = true then partTo ss set k ++ [ss.getD k (0, 0, false)] else partTo ss set k
def partS (ss : List Sett) (set : Int) : List Sett := partTo ss set ss.length
theorem part_len (ss : List Sett) (set : Int) : ∀ k, (partTo ss set k).length ≤ k
  | 0 => Nat.le_refl _
  | k + 1 => by
    have := part_len ss set k
    rw [partTo]; split
    · rw [List.length_append]; simp; omega
    · omega
theorem partTo_mem {ss : List Sett} {set : Int} {s : Sett} : ∀ {k}, s ∈ partTo ss set k ↔ ∃ j, j < k ∧ hasB set j = true ∧ s = ss.getD j (0, 0, false)
  | 0 => by simp [partTo]
  | k + 1 => by
    rw [partTo]
    split
    · rename_i hb
      rw [List.mem_append, partTo_mem]
      constructor
      · rintro (⟨j, a, b, c⟩ | h)
        · exact ⟨j, by omega, b, c⟩
        · exact ⟨k, by omega, hb, by simpa using h⟩
      · rintro ⟨j, a, b, c⟩
        by_cases e : j = k
        · subst e; exact .inr (by simp [c])
        · exact .inl ⟨j, by omega, b, c⟩
    · rename_i hb
      rw [partTo_mem]
      constructor
      · rintro ⟨j, a, b, c⟩; exact ⟨j, by omega, b, c⟩
      · rintro ⟨j, a, b, c⟩
        by_cases e : j = k
        · subst e; exact absurd b hb
        · exact ⟨j, by omega, b, c⟩
theorem part_mem {ss : List Sett} {set : Int} {s : Sett} : s ∈ partS ss set ↔ ∃ j, j < ss.length ∧ hasB set j = true ∧ s = ss.getD j (0, 0, false) := partTo_mem
theorem tells_get {xs : List (Int × Int)} {a b : Int} {ss : List Sett} {k : Nat} (hk : k < ss.length) : (tellsOf xs a b ss).getD k dfl = tellOf xs a b (ss.getD k (0, 0, false)) := by
  simp [List.getD, tellsOf, hk]
theorem part_tru {sLo sHi : Int} {xs : List (Int × Int)} {a b : Int} {ss : List Sett} {set : Int} (x : Nat → Int) : Tru sLo sHi (tellsOf xs a b (partS ss set)) x ↔ TellsB sLo sHi (tellsOf xs a b ss) set x := by
  have hl : (tellsOf xs a b ss).length = ss.length := by simp [tellsOf]
  constructor
  · rintro ⟨h1, h2⟩
    refine ⟨h1, fun k hk hb => ?_⟩
    rw [hl] at hk
    rw [tells_get hk]
    exact h2 _ (List.mem_map.2 ⟨_, part_mem.2 ⟨k, hk, hb, rfl⟩, rfl⟩)
  · rintro ⟨h1, h2⟩
    refine ⟨h1, fun t ht => ?_⟩
    obtain ⟨s, hs, rfl⟩ := List.mem_map.1 ht
    obtain ⟨k, hk, hb, rfl⟩ := part_mem.1 hs
    have := h2 k (by rw [hl]; exact hk) hb
    rw [tells_get hk] at this
    exact this
def partH (h : Hd) (sa : Option Addr) (n cap : Nat) : Hd := ⟨h.a, h.n, h.cap, h.eLo, h.eHi, h.images, h.sLo, h.sHi, sa, n, cap⟩
section
variable {h : Hd} {xs : List (Int × Int)} {ss : List Sett}
theorem part_valid (hv : validH h xs ss = true) (set : Int) (sa : Option Addr) (n cap : Nat) : validH (partH h sa n cap) xs (partS ss set) = true := by
  obtain ⟨a, b, c, d, e, f, g⟩ := valid_has hv
  refine valid_iff.2 ⟨a, b, c, d, e, Nat.le_trans (part_len ss set _) f, fun s hs => ?_⟩
  obtain ⟨j, hj, _, rfl⟩ := part_mem.1 hs
  exact g _ (by simp [List.getD, hj])
theorem part_can (hv : validH h xs ss = true) (set : Int) : (∃ x, Tru h.sLo h.sHi (tellsOf xs h.eLo h.eHi (partS ss set)) x) ↔ canB h xs ss set = true := by
  rw [canB_iff hv]
  exact ⟨fun ⟨x, hx⟩ => ⟨x, (part_tru x).1 hx⟩, fun ⟨x, hx⟩ => ⟨x, (part_tru x).2 hx⟩⟩
theorem part_sum (hv : validH h xs ss = true) (set : Int) (sa : Option Addr) (n cap : Nat) : ∃ lo hi : Int, reply (sumA (partH h sa n cap) xs (partS ss set)) = tup3 lo hi (if canB h xs ss set then 0 else 10) := by
  have hpv := part_valid hv set sa n cap
  cases hc : canB h xs ss set
  · refine ⟨0, 0, ?_⟩
    rw [sum_clash hpv (fun hx => by have := (part_can hv set).1 hx; rw [hc] at this; cases this)]; rfl
  · obtain ⟨lo, hi, e, _⟩ := sum_ok hpv ((part_can hv set).2 hc)
    exact ⟨lo, hi, by rw [e]; rfl⟩
end
end Go.Proofs.Ytmfbkgdlfackcaa
