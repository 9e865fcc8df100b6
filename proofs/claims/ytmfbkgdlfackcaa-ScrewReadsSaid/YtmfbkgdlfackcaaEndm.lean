/- Of truths: the greater of two is one; each sum between both ends has one; places reach their ends with the ends of the sum. -/
import Derived.Test.YtmfbkgdlfackcaaSem
namespace Go.Proofs.Ytmfbkgdlfackcaa
open Fw Go.RowKit

theorem keeps_shift {t : Tell} {x : Nat → Int} (d : Int) (h : Keeps t x) : Keeps t (fun k => x k + d) := by
  unfold Keeps at *; split <;> rename_i hh
  · rw [if_pos hh] at h; dsimp only; omega
  · rw [if_neg hh] at h; dsimp only; omega
theorem keeps_max {t : Tell} {x y : Nat → Int} (h : Keeps t x) (k : Keeps t y) : Keeps t (fun i => max (x i) (y i)) := by
  unfold Keeps at *; split <;> rename_i hh
  · rw [if_pos hh] at h k; dsimp only; omega
  · rw [if_neg hh] at h k; dsimp only; omega
theorem keeps_min {t : Tell} {x y : Nat → Int} (h : Keeps t x) (k : Keeps t y) : Keeps t (fun i => min (x i) (y i)) := by
  unfold Keeps at *; split <;> rename_i hh
  · rw [if_pos hh] at h k; dsimp only; omega
  · rw [if_neg hh] at h k; dsimp only; omega
theorem tru_sum {sLo sHi n : Int} {ts : List Tell} (h : sLo ≤ n ∧ n ≤ sHi) (x : Nat → Int) : Tru n n ts x ↔ Tru sLo sHi ts x ∧ x 1 - x 0 = n := by
  unfold Tru
  constructor
  · rintro ⟨a, b⟩; exact ⟨⟨by omega, b⟩, by omega⟩
  · rintro ⟨⟨_, b⟩, c⟩; exact ⟨by omega, b⟩
theorem keeps_all_shift {ts : List Tell} {x : Nat → Int} (d : Int) (h : ∀ t ∈ ts, Keeps t x) : ∀ t ∈ ts, Keeps t (fun k => x k + d) := fun t ht => keeps_shift d (h t ht)

variable {sLo sHi lo hi : Int} {ts : List Tell}
theorem sum_within (h : Ext (Tru sLo sHi ts) 0 1 lo hi) : sLo ≤ lo ∧ lo ≤ hi ∧ hi ≤ sHi := by
  obtain ⟨a, ⟨x, hx, ex⟩, y, hy, ey⟩ := h
  have := a x hx; have := hx.1; have := hy.1
  omega
/-- Each sum between both ends has a truth. -/
theorem sum_each (h : Ext (Tru sLo sHi ts) 0 1 lo hi) {n : Int} (h1 : lo ≤ n) (h2 : n ≤ hi) : ∃ x, Tru n n ts x := by
  have hw := sum_within h
  obtain ⟨a, ⟨x, hx, ex⟩, y, hy, ey⟩ := h
  -- the places with the least sum, and those with the greatest one, brought down
  refine ⟨fun k => max (x k + -(x 0)) (y k + (n - hi - y 0)), (tru_sum (sLo := sLo) (sHi := sHi) (by omega) _).2 ⟨⟨?_, fun t ht => keeps_max (keeps_shift _ (hx.2 t ht)) (keeps_shift _ (hy.2 t ht))⟩, ?_⟩⟩
  · (try dsimp only); omega
  · (try dsimp only); omega
theorem sum_none (h : Ext (Tru sLo sHi ts) 0 1 lo hi) {n : Int} (hn : sLo ≤ n ∧ n ≤ sHi) (h1 : n < lo ∨ hi < n) : ¬∃ x, Tru n n ts x := by
  rintro ⟨x, hx⟩
  obtain ⟨h3, h4⟩ := (tru_sum hn x).1 hx
  have := h.1 x h3
  omega
variable {p q a b : Int} {j : Nat}
/-- With a sum alone a place is within what is told. -/
theorem place_in (h : Ext (Tru sLo sHi ts) 0 j p q) {n : Int} (hn : sLo ≤ n ∧ n ≤ sHi) (k : Ext (Tru n n ts) 0 j a b) : p ≤ a ∧ b ≤ q := by
  obtain ⟨_, ⟨x, hx, ex⟩, y, hy, ey⟩ := k
  have := h.1 x ((tru_sum hn x).1 hx).1
  have := h.1 y ((tru_sum hn y).1 hy).1
  omega
/-- The lower end is reached with the least sum. -/
theorem place_low (hs : Ext (Tru sLo sHi ts) 0 1 lo hi) (h : Ext (Tru sLo sHi ts) 0 j p q) (k : Ext (Tru lo lo ts) 0 j a b) : a = p := by
  have hw := sum_within hs
  have hin := place_in h (by omega) k
  obtain ⟨_, ⟨x, hx, ex⟩, _⟩ := h
  obtain ⟨hb, ⟨y, hy, ey⟩, _⟩ := hs
  have hz : Tru lo lo ts (fun i => min (x i + -(x 0)) (y i + -(y 0))) := by
    refine (tru_sum (sLo := sLo) (sHi := sHi) (by omega) _).2 ⟨⟨?_, fun t ht => keeps_min (keeps_shift _ (hx.2 t ht)) (keeps_shift _ (hy.2 t ht))⟩, ?_⟩
    · have := hx.1; have := hy.1; (try dsimp only); omega
    · have := hb x hx; (try dsimp only); omega
  have := k.1 _ hz
  (try dsimp only at this)
  omega
/-- The upper end is reached with the greatest sum. -/
theorem place_high (hs : Ext (Tru sLo sHi ts) 0 1 lo hi) (h : Ext (Tru sLo sHi ts) 0 j p q) (k : Ext (Tru hi hi ts) 0 j a b) : b = q := by
  have hw := sum_within hs
  have hin := place_in h (by omega) k
  obtain ⟨_, _, x, hx, ex⟩ := h
  obtain ⟨hb, _, y, hy, ey⟩ := hs
  have hz : Tru hi hi ts (fun i => max (x i + -(x 0)) (y i + -(y 0))) := by
    refine (tru_sum (sLo := sLo) (sHi := sHi) (by omega) _).2 ⟨⟨?_, fun t ht => keeps_max (keeps_shift _ (hx.2 t ht)) (keeps_shift _ (hy.2 t ht))⟩, ?_⟩
    · have := hx.1; have := hy.1; (try dsimp only); omega
    · have := hb x hx; (try dsimp only); omega
  have := k.1 _ hz
  (try dsimp only at this)
  omega
/-- A measure whose sum is known. -/
def withN (h : Hd) (n : Int) : Hd := ⟨h.a, h.n, h.cap, h.eLo, h.eHi, h.images, n, n, h.sa, h.ns, h.scap⟩
theorem withN_valid {h : Hd} {xs : List (Int × Int)} {ss : List Sett} (hv : validH h xs ss = true) {n : Int} (hn : h.sLo ≤ n ∧ n ≤ h.sHi) : validH (withN h n) xs ss = true := by
  obtain ⟨a, b, c, d, e, f, g⟩ := valid_has hv
  exact valid_iff.2 ⟨a, b, c, d, by simp only [withN]; omega, f, g⟩
end Go.Proofs.Ytmfbkgdlfackcaa
